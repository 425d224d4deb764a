/- W3: laid together out of Tgl Joi. -/
import Derived.Laws.CopyOwn
import Derived.Deep.RegionHeld3
import Derived.Test.YtcnlgbjkjlbmbaaGreatW2
namespace Go.Proofs.YtcnlgbjkjlbmbaaGreat
open Go.RowKit
attribute [local go_sem] Oper.semAt_some

def TogR (w : World) (c n : Nat) (o : Option (List UInt8)) (e : Ending) (w' : World) : Prop :=
 (o = none → e = .returned (.tuple #[.agg #[.int .u64 0, .int .i64 0], .slice none 0 0])) ∧
   (∀ l, o = some l → ∃ A cp, e = .returned (.tuple #[.agg #[.int .u64 (c : Nat), .int .i64 (n : Nat)], .slice A l.length cp]) ∧ Rd w' A l.length l ∧ l.length ≤ cp ∧ (A = none → cp = 0) ∧ (∀ ad, A = some ad → w.heap.size ≤ ad.block ∧ ad.block < w'.heap.size)) ∧ Fr (fun _ => False) w w'

section
variable {ops : Array Oper} {rest : List Oper} {op : Oper} {a : Act} {w : World} {Q : Exit → Act → World → Prop} {F : Fence} {n : Nat}
set_option maxRecDepth 100000 in
theorem wpListIn_load_mid' (hw : Region.wanted op (yielded ops a.tmps) = true) (ty : TypeId) (x : Operand) (ho : op.op = .load ty x)
 (b o : Nat) (hx : a.eval x = .pointer (some ⟨b, o, none⟩)) (cs : List Value) (d : TypeDesc) (hc : w.rangeAt b o cs)
 (hu : Tryz.prog.underlying ty = some d) (hd : d.isRow = true) (hi : (Tryz.prog.info? ty).map (·.size) = some cs.length)
 (h : wpListIn F n Tryz.prog ops Q rest (a.put op.dst (.agg cs.toArray)) w) : wpListIn F n Tryz.prog ops Q (op :: rest) a w := by
 refine wpListIn_step fun K hK => ?_
 simp only [hw, if_true]
 have hl := run_loadVar_mid (P := Tryz.prog) w b o ty cs d hc hu hd hi
 have hs : op.semAt F.round a.eval = execOp a.eval op := Oper.semAt_plain F _ _ (fun c h => by rw [ho] at h; cases h)
 unfold Oper.wpIn
 rw [hs]
 unfold execOp
 simp only [ho, hx, Instr.loadAt, Instr.sureAddr, Sem.run_bind, Sem.run_pure, Result.andThen_ok, hl, Oper.uponIn]
 exact ⟨fun f hf => by simp [Oper.about, ho] at hf, hK _ _ h⟩
end

set_option maxRecDepth 100000 in
theorem Blk.rd_at {w : World} {b : Nat} {t : TypeId} {l : List UInt8} (h : Blk w b t (cellsB l).toArray) (o n : Nat) (hn : o + n ≤ l.length) : Rd w (some ⟨b, o, none⟩) n ((l.drop o).take n) := by
 refine ⟨by rw [List.length_take, List.length_drop]; omega, fun _ => ⟨_, rfl, fun j c hc => ?_⟩⟩
 rw [Addr.add_mid]
 exact h.range o n j _ (by rw [cellsB, List.getElem?_map, hc]; rfl)
set_option maxRecDepth 100000 in
theorem own_cells {base e size k : Nat} {v : Value} {xs : List Value} {W : World} (h : W.ownsRow base e size v k xs) : ∀ (j : Nat) (o : Obj), v.ownBlock = some j → W.heap[j]? = some o → o.isCells = true := fun j o hj ho => by
 rcases h.2 with ⟨rfl, _⟩ | ⟨g, cap, cur, rfl, _, hgb, _⟩
 · cases hj
 · injection hj with hj
   subst hj
   rw [hgb] at ho
   cases ho
   rfl
set_option maxRecDepth 100000 in
theorem own_rd {w : World} {base e : Nat} {v : Value} {l : List UInt8} (h : w.ownsRow base e 1 v l.length (cellsB l)) :
 ∃ A c, v = .slice A l.length c ∧ (A = none → c = 0) ∧ l.length ≤ c ∧ c ≤ maxLen ∧ Rd w A l.length l := by
 rcases h.2 with ⟨rfl, h0⟩ | ⟨g, cap, cur, rfl, _, _, hn, hc, _⟩
 · have hl : l = [] := List.eq_nil_of_length_eq_zero h0
   subst hl
   exact ⟨none, 0, rfl, fun _ => rfl, Nat.le_refl _, Nat.zero_le _, Rd.nil _ _⟩
 · exact ⟨_, cap, rfl, (fun e => by cases e), hn, hc, Rd.of_own h⟩
set_option maxRecDepth 100000 in
theorem row_own {B base e size k : Nat} {v : Value} {xs : List Value} {W W' : World} {row : Option Nat} (h : W.ownsRow base e size v k xs) (hg : W.grownBy W' row) (hr : ∀ r, row = some r → B ≤ r ∧ ∃ o : Obj, W.heap[r]? = some o ∧ o.isCells = false) : W'.ownsRow base e size v k xs := by
 refine h.kept hg ?_
 rcases h.2 with ⟨rfl, _⟩ | ⟨g, cap, cur, rfl, _, hgb, _⟩
 · exact .inl rfl
 · refine .inr fun e' => ?_
   obtain ⟨_, o, ho, hc⟩ := hr g (by rw [← e']; rfl)
   rw [hgb] at ho
   cases ho
   cases hc

set_option maxRecDepth 100000 in
theorem upto_split {α : Type} {f : Nat → α} {k : Nat} {pre : List α} {x : α} (h : upto f k = pre ++ [x]) : ∃ j, k = j + 1 ∧ pre = upto f j ∧ x = f j := by
 cases k with
 | zero => simp [upto] at h
 | succ j =>
   rw [upto_succ] at h
   obtain ⟨h1, h2⟩ := List.append_inj' h rfl
   exact ⟨j, rfl, h1.symm, by simpa using h2.symm⟩
set_option maxRecDepth 100000 in
theorem fin_put {w X : World} {D B : Nat} {ds : Option (List Deferred)} (hK : X.heap[D]? = some (.deferred ds)) (hD : B ≤ D) (hB : w.heap.size ≤ B) (hf : Fr (fun _ => False) w X) :
 Fr (fun _ => False) w (X.putObj D (.deferred none)) ∧ (∀ {g : Nat} {t : TypeId} {cs : Array Value}, Blk X g t cs → Blk (X.putObj D (.deferred none)) g t cs) ∧ (∀ {base e size k : Nat} {v : Value} {xs : List Value}, X.ownsRow base e size v k xs → (X.putObj D (.deferred none)).ownsRow base e size v k xs) := by
 have hg := grownBy_putObj' X D (.deferred none)
 have hr : ∀ r, some D = some r → B ≤ r ∧ ∃ o : Obj, X.heap[r]? = some o ∧ o.isCells = false := fun r e => by
  injection e with e
  subst e
  exact ⟨hD, _, hK, rfl⟩
 exact ⟨fr_own hf hB hg hr, fun h => blk_own h hg hr, fun h => row_own h hg hr⟩

set_option maxRecDepth 100000 in
set_option maxHeartbeats 4000000 in
theorem tog_ok {w : World} {b off cap : Nat} {ss : List (List UInt8)} {s : List UInt8} (hsec : SecsAt w b off ss) (h0 : ss[0]? = some s) (hreach : ss.length ≤ 1099511627776) {c n p m : Nat} (hx : hdOf (hv ss 0) = ⟨c, n, p, m⟩) (hm : mayT c (n : Int) = true) :
 Calls Tryz.prog 122 #[.slice (some ⟨b, off, none⟩) ss.length cap] w (TogR w c n (togOf ss)) := by
 obtain ⟨hs, hrg⟩ := hsec 0 s h0
 rw [Nat.zero_mul, Nat.add_zero] at hrg
 have hlen : 0 < ss.length := (List.getElem?_eq_some_iff.1 h0).1
 have hss : ∀ s ∈ ss, s.length = 128 := fun s hs => by
  obtain ⟨i, hi, rfl⟩ := List.getElem_of_mem hs
  exact (hsec i _ (List.getElem?_eq_getElem hi)).1
 have hbl : b < w.heap.size := by
  have := hrg 0 _ (show (cellsB s)[0]? = some _ from List.getElem?_eq_getElem (by rw [cellsB_len]; omega))
  exact World.block_lt_of_cell? w _ this
 have e0 : hv ss 0 = s.take 64 := by simp [hv, h0]
 have ht : tagOf s = (c, n) := by
  unfold tagOf
  rw [← e0, hx]
  simp [hm]
 obtain ⟨W, hW, b2, b3, hf, hsz⟩ := two_cells w
 have HR : Hid (W.rangeAt b off (cellsB s)) := Lib.hid fun j v hv => (hf.cell (World.block_lt_of_cell? w _ (hrg j v hv)) (fun q => q)).trans (hrg j v hv)
 have HW := Lib.hid (And.intro b2 (And.intro b3 (And.intro hf hsz)))
 have HWW := Lib.hid hW
 have HT := Lib.hid (tag_any W s hs)
 rw [ht] at HT
 have hne : ((ss.length : Int) == 0) = false := by rw [beq_eq_false_iff_ne]; omega
 have hl64 : (s.take 64).length = 64 := by simp [hs]
 have HH := Lib.hid fun w => headOf_is (c := c) (n := n) (q := p) (m := m) w (s.take 64) hl64 (by rw [← e0]; exact hx)
 have HCU := Lib.hid fun w => cut0_any w s hs
 have HSEC := Lib.hid (And.intro hsec (And.intro hss (And.intro hx hbl)))
 clear hrg hsec h0 b2 b3 hf hsz hW ht e0 hss hx hbl
 refine callsIn_wide (n := 10).1 ?_
 refine callsIn_of_wp_marks Tryz.func122 rfl trivial ?_ rfl
 simp only [Tryz.ntmps122, List.size_toArray, List.length_cons, List.length_nil, Nat.reduceAdd, Nat.reduceSub, Array.replicate_succ, Array.replicate_zero, List.push_toArray, List.append_toArray, List.nil_append, List.cons_append]
 gi_wp2_with (refine wpListIn_load_mid' (by rfl) 83 _ rfl b off rfl (cellsB s) _ (HWW.out ▸ HR.out) Tryz.underlying83 rfl (by rw [infoSector, cellsB_len, hs]) ?_)
 rw [← HWW.out]
 refine ⟨trivial, (callsIn_wide.2 HT.out).mono ?_⟩
 rintro e w2 ⟨rfl, hf2⟩
 have H2 := Lib.hid (And.intro (HW.out.1.keep hf2 (fun q => q)) (And.intro (HW.out.2.1.keep hf2 (fun q => q)) (HW.out.2.2.1.trans hf2 (fun _ _ q => q))))
 have hz2 : w.heap.size + 2 ≤ w2.heap.size := by have := HW.out.2.2.2; have := hf2.size; omega
 have HR2 : Hid (w2.rangeAt b off (cellsB s)) := Lib.hid fun j v hv => (hf2.cell (World.block_lt_of_cell? W _ (HR.out j v hv)) (fun q => q)).trans (HR.out j v hv)
 clear hf2
 gi_wp2
 refine ⟨trivial, (callsIn_wide.2 (may_any w2 c n)).mono ?_⟩
 rintro e w3 ⟨rfl, hf3⟩
 rw [hm]
 have H3 := Lib.hid (And.intro (H2.out.1.keep hf3 (fun q => q)) (And.intro (H2.out.2.1.keep hf3 (fun q => q)) (H2.out.2.2.trans hf3 (fun _ _ q => q))))
 have hz3 : w.heap.size + 2 ≤ w3.heap.size := by have := hf3.size; omega
 have HR3 : Hid (∀ X, (w3.alloc X).rangeAt b off (cellsB s)) := Lib.hid fun X => World.rangeAt_alloc (fun j v hv => (hf3.cell (World.block_lt_of_cell? w2 _ (HR2.out j v hv)) (fun q => q)).trans (HR2.out j v hv)) X
 clear hf3 HR2 HR HT HW HWW hz2
 clear W
 have hi1 : (0 : Int) < (ss.length : Int) := by omega
 gi_wp2_with (refine wpListIn_load_mid rfl 83 _ rfl b off rfl (cellsB s) _ (HR3.out _) Tryz.underlying83 rfl (by rw [infoSector, cellsB_len, hs]) ?_)
 have ba := Blk.new w3 46 #[.slice none 0 0]
 have hfa : Fr (fun _ => False) w3 (w3.alloc (.cells #[.slice none 0 0] 46)) := (Fr.refl _ w3).alloc _
 refine ⟨trivial, (callsIn_wide.2 (HCU.out _)).mono ?_⟩
 rintro e w4 ⟨rfl, hf4⟩
 have HA4 := Lib.hid (And.intro (ba.keep hf4 (fun q => q)) (hfa.trans hf4 (fun _ _ q => q)))
 clear ba hfa hf4
 gi_wp2
 refine ⟨trivial, (callsIn_wide.2 (HH.out _)).mono ?_⟩
 rintro e w5 ⟨rfl, hf5⟩
 have hfw : Fr (fun _ => False) w3 w5 := HA4.out.2.trans hf5 (fun _ _ q => q)
 have q2 := H3.out.1.keep hfw (fun q => q)
 have q3 := H3.out.2.1.keep hfw (fun q => q)
 have qa := HA4.out.1.keep hf5 (fun q => q)
 have hqf := H3.out.2.2.trans hfw (fun _ _ q => q)
 have hz5 : w3.heap.size < w5.heap.size := qa.lt
 have H5 := Lib.hid (And.intro q2 (And.intro q3 (And.intro qa hqf)))
 clear hfw q2 q3 qa hqf hf5 HA4 H3 HCU HH HR3
 generalize w3.heap.size = ga at *
 clear w3
 gi_wp2
 refine ⟨trivial, (callsIn_wide.2 (halves_any _ _ _ _)).mono ?_⟩
 rintro e w7 ⟨rfl, rfl⟩
 obtain ⟨W, hW, g2, g3, gal, gwa, gbs, hszW, hfW⟩ : ∃ W, W = (w5.alloc (.cells #[.int .u64 (c : Nat), .int .i64 (n : Nat), .int .i64 (p : Nat), .int .i64 (m : Nat)] 180)).alloc (.cells #[.slice (some ⟨b, off, none⟩) ss.length cap] 71) ∧
  Blk W w.heap.size 148 #[.int .u64 0, .int .i64 0] ∧ Blk W (w.heap.size + 1) 46 #[.slice none 0 0] ∧ Blk W ga 46 #[.slice none 0 0] ∧ Blk W w5.heap.size 180 #[.int .u64 (c : Nat), .int .i64 (n : Nat), .int .i64 (p : Nat), .int .i64 (m : Nat)] ∧
  Blk W (w5.heap.size + 1) 71 #[.slice (some ⟨b, off, none⟩) ss.length cap] ∧ W.heap.size = w5.heap.size + 2 ∧ Fr (fun _ => False) w W := by
  have f2 : Fr (fun _ => False) w5 ((w5.alloc (.cells #[.int .u64 (c : Nat), .int .i64 (n : Nat), .int .i64 (p : Nat), .int .i64 (m : Nat)] 180)).alloc (.cells #[.slice (some ⟨b, off, none⟩) ss.length cap] 71)) := ((Fr.refl _ w5).alloc _).alloc _
  refine ⟨_, rfl, H5.out.1.keep f2 (fun q => q), H5.out.2.1.keep f2 (fun q => q), H5.out.2.2.1.keep f2 (fun q => q), (Blk.new w5 _ _).keep (F := fun _ => False) ((Fr.refl _ _).alloc _) (fun q => q), ?_, by simp, H5.out.2.2.2.trans f2 (fun _ _ q => q)⟩
  have h1 := Blk.new (w5.alloc (.cells #[.int .u64 (c : Nat), .int .i64 (n : Nat), .int .i64 (p : Nat), .int .i64 (m : Nat)] 180)) 71 #[.slice (some ⟨b, off, none⟩) ss.length cap]
  simpa using h1
 have hs6 : (w5.alloc (.cells #[.int .u64 (c : Nat), .int .i64 (n : Nat), .int .i64 (p : Nat), .int .i64 (m : Nat)] 180)).heap.size = w5.heap.size + 1 := by simp
 rw [← hW, hs6]
 have HI0 := Lib.hid (And.intro g2 (And.intro g3 (And.intro gal (And.intro gwa (And.intro hfW hszW)))))
 have HBX := Lib.hid gbs
 clear hs6 hW g2 g3 gal gwa gbs hfW H5
 generalize w5.heap.size = gw at *
 clear w5
 have hsecW : SecsAt W b off ss := fun i s hi => ⟨(HSEC.out.1 i s hi).1, fun j v hv => by
  have h1 := (HSEC.out.1 i s hi).2 j v hv
  exact (HI0.out.2.2.2.2.1.cell (World.block_lt_of_cell? w _ h1) (fun q => q)).trans h1⟩
 have h00 : 0 < 2 * ss.length := by omega
 have hgaw : w.heap.size + 2 ≤ ga := by omega
 have hsq := halves_stops (fun j => j = w.heap.size ∨ j = w.heap.size + 1 ∨ j = ga ∨ j = gw ∨ W.heap.size ≤ j) (gw + 1) b off cap ss HSEC.out.2.1 h00 hreach (by have := HSEC.out.2.2.2; omega) (by omega) W HBX.out hsecW
 have HSQ := Lib.hid hsq
 clear hsq hsecW
 gi_wp2
 refine wpIn_rangeFunc_ownH rfl (by omega) (gf := 151) (lb := #[.pointer (some ⟨gw + 1, 0, none⟩)]) rfl trivial (enters_of Tryz.func151 (by kernel_rfl) rfl) HSQ.out (fun h k => h.trans k (fun _ _ q => q)) (fun W0 l o o' hl ho _ _ => frB (fun _ q => Or.inr (Or.inr (Or.inr (Or.inr q)))) W0 l o o' hl ho) (Below.refl _ _) (fun _ => rfl)
  (fun pre X => Blk X w.heap.size 148 #[.int .u64 0, .int .i64 0] ∧ Blk X (w.heap.size + 1) 46 #[.slice none 0 0] ∧ (∃ v, Blk X ga 46 #[v] ∧ X.ownsRow W.heap.size 5 1 v (pcs pre).length (cellsB (pcs pre))) ∧
    (∃ pl : Nat, Blk X gw 180 #[.int .u64 (c : Nat), .int .i64 (n : Nat), .int .i64 (pl : Nat), .int .i64 (m : Nat)]) ∧ Fr (fun _ => False) w X ∧ W.heap.size ≤ X.heap.size ∧ Good c n m pre)
  (fun c' pre X => Fr (fun _ => False) w X ∧ ((c' = .exit 0 ∧ Blk X w.heap.size 148 #[.int .u64 0, .int .i64 0] ∧ Blk X (w.heap.size + 1) 46 #[.slice none 0 0] ∧ ∃ pre' x, pre = pre' ++ [x] ∧ Good c n m pre' ∧ hdOf x.1.2 ≠ ⟨c, n, x.1.1, m⟩) ∨
    (c' = .ret ∧ Blk X w.heap.size 148 #[.int .u64 (c : Nat), .int .i64 (n : Nat)] ∧ (∃ v, Blk X (w.heap.size + 1) 46 #[v] ∧ X.ownsRow W.heap.size 5 1 v (pcs pre).length (cellsB (pcs pre))) ∧ ∃ pre' x, pre = pre' ++ [x] ∧ Good c n m pre' ∧ hdOf x.1.2 = ⟨c, n, x.1.1, m⟩ ∧ x.1.1 + 1 = m)))
  (fun s X Y row hs hg hr' => by
    obtain ⟨h1, h2, ⟨v, h3, h4⟩, ⟨pl, h5⟩, h6, h7, h8⟩ := hs
    exact ⟨blk_own h1 hg hr', blk_own h2 hg hr', ⟨v, blk_own h3 hg hr', row_own h4 hg hr'⟩, ⟨pl, blk_own h5 hg hr'⟩, fr_own h6 (by omega) hg hr', Nat.le_trans h7 hg.size, h8⟩)
  (fun c' s X Y row hs hg hr' => by
    obtain ⟨h1, ⟨h2, h3, h4, h5⟩ | ⟨h2, h3, ⟨v, h4, h5⟩, h6⟩⟩ := hs
    · exact ⟨fr_own h1 (by omega) hg hr', .inl ⟨h2, blk_own h3 hg hr', blk_own h4 hg hr', h5⟩⟩
    · exact ⟨fr_own h1 (by omega) hg hr', .inr ⟨h2, blk_own h3 hg hr', ⟨v, blk_own h4 hg hr', row_own h5 hg hr'⟩, h6⟩⟩)
  ⟨HI0.out.1, HI0.out.2.1, ⟨_, HI0.out.2.2.1, World.ownsRow_nil _ _ _ _⟩, ⟨p, HI0.out.2.2.2.1⟩, HI0.out.2.2.2.2.1, Nat.le_refl _, fun x hx => by cases hx⟩
  (fun x a' X => ∃ Bx, gw + 1 < Bx ∧ Blk X Bx 177 (cellsB x.1.2).toArray ∧ a' = { tmps := #[.slice (some ⟨b, off, none⟩) ss.length cap, undef, .pointer (some ⟨w.heap.size, 0, none⟩), .pointer (some ⟨w.heap.size + 1, 0, none⟩), .pointer (some ⟨ga, 0, none⟩), .pointer (some ⟨gw, 0, none⟩), .int .i64 (x.1.1 : Nat), .pointer (some ⟨Bx, 0, none⟩), .slice (some ⟨b, off, none⟩) ss.length cap, .int .i64 (ss.length : Nat), .bool false, .bool false, .slice (some ⟨b, off, none⟩) ss.length cap, .pointer (some ⟨b, off, none⟩), .agg (cellsB s).toArray, tagV (c, n), .bool true, .bool false, .bool false, undef, .slice (some ⟨b, off, none⟩) ss.length cap, .pointer (some ⟨b, off, none⟩), .agg (cellsB s).toArray, av (s.take 64), .agg #[.int .u64 (c : Nat), .int .i64 (n : Nat), .int .i64 (p : Nat), .int .i64 (m : Nat)], .slice (some ⟨b, off, none⟩) ss.length cap, .func (.func 151) #[] #[.pointer (some ⟨gw + 1, 0, none⟩)], .int .i64 (x.1.1 : Nat), av x.1.2, undef, undef, undef, undef, undef, undef, undef, undef, undef, undef, undef, undef, undef, undef, undef, undef, undef, undef], defers := [] })
  (fun x a' _ X Y row hs hg hr' => by obtain ⟨Bx, h1, h2, h3⟩ := hs; exact ⟨Bx, h1, blk_own h2 hg hr', h3⟩)
  ?assign ?body ?done ?stop
 case assign =>
  rintro l pre x X K ⟨h1, h2, ⟨v, h3, h4⟩, ⟨pl, h5⟩, h6, h7, h8⟩ hK
  have HI := Lib.hid (And.intro h1 (And.intro h2 (And.intro h3 (And.intro h4 (And.intro h5 (And.intro h6 (And.intro h7 h8)))))))
  have HXL := Lib.hid x.2.2
  have HNB := Lib.hid (Blk.new X 177 (cellsB (nought 64)).toArray)
  clear h1 h2 h3 h4 h5 h6 h7 h8
  dsimp only [encPl]
  gi_wp2_with (first
   | (refine wpListIn_zero rfl 177 rfl zeroHalf ?_)
   | (refine wpListIn_store_mid rfl 177 _ _ rfl X.heap.size 0 (cellsB x.1.2).toArray rfl rfl (HNB.out.there (by simp [cellsB_len, nought_len, HXL.out])) (by rw [infoHalf]; simp [cellsB_len, HXL.out]) (all_oneCell_toArray (cellsB_one _)) ?_))
  have hfa : Fr (fun _ => False) X ((X.alloc (.cells (cellsB (nought 64)).toArray 177)).setCells X.heap.size 0 (cellsB x.1.2)) := Fr.setCells (.inr (Nat.le_refl _)) ((Fr.refl _ X).alloc _)
  have hbx := HNB.out.over (o := 0) (m := x.1.2) (by rw [nought_len, HXL.out]; omega)
  rw [patch_all (by rw [nought_len, HXL.out])] at hbx
  exact hK _ _ (((KeepsOthers.alloc X _).trans (KeepsOthers.setCells _ _ _ _)).from _) (hfa.mono (fun _ _ q => q.elim))
   ⟨HI.out.1.keep hfa (fun q => q), HI.out.2.1.keep hfa (fun q => q), ⟨v, HI.out.2.2.1.keep hfa (fun q => q), own_keep HI.out.2.2.2.1 hfa (fun _ _ q => q)⟩, ⟨pl, HI.out.2.2.2.2.1.keep hfa (fun q => q)⟩, HI.out.2.2.2.2.2.1.trans hfa (fun _ _ q => q), Nat.le_trans HI.out.2.2.2.2.2.2.1 hfa.size, HI.out.2.2.2.2.2.2.2⟩
   ⟨X.heap.size, by have := HI.out.2.2.2.2.2.2.1; have := HI0.out.2.2.2.2.2; omega, hbx, rfl⟩
 case body =>
  rintro l pre x a' X hl ⟨r, hr'⟩ ⟨h1, h2, ⟨v, h3, h4⟩, ⟨pl, h5⟩, h6, h7, h8⟩ ⟨Bx, hBx, hbx, rfl⟩ hlt
  clear hr' r hl
  obtain ⟨⟨q, h⟩, hq, hh⟩ := x
  simp only at hq hh hbx ⊢
  have d2 := h5.cell 2
  have g2 := h5.frozen 2
  simp at d2
  have HI := Lib.hid (And.intro h1 (And.intro h2 (And.intro h3 (And.intro h4 (And.intro h5 (And.intro h6 (And.intro h7 (And.intro h8 hbx))))))))
  clear h1 h2 h3 h4 h5 h6 h7 h8 hbx
  obtain ⟨y, hy⟩ : ∃ y, y = hdOf h := ⟨_, rfl⟩
  obtain ⟨c', n', q', m'⟩ := y
  have HHD := Lib.hid fun w => headOf_is w h hh hy.symm
  have HY := Lib.hid hy
  clear hy
  gi_wp2
  rename_i K0 hK0
  have hfX : Fr (fun j => j = gw) X (X.setCell ⟨gw, 2, none⟩ (.int .i64 (q : Nat))) := (Fr.refl (fun j => j = gw) X).setCell (p := ⟨gw, 2, none⟩) (.inl rfl) _
  have x5 : Blk (X.setCell ⟨gw, 2, none⟩ (.int .i64 (q : Nat))) gw 180 #[.int .u64 (c : Nat), .int .i64 (n : Nat), .int .i64 (q : Nat), .int .i64 (m : Nat)] := HI.out.2.2.2.2.1.set_ 2 _
  have x1 := HI.out.1.keep hfX (by omega)
  have x2 := HI.out.2.1.keep hfX (by omega)
  have x3 := HI.out.2.2.1.keep hfX (by omega)
  have x4 := own_keep HI.out.2.2.2.1 hfX (fun j hj e => own_ne HI.out.2.2.2.1 HI.out.2.2.2.2.1 (by decide) (by rw [hj, e]))
  have x6 := HI.out.2.2.2.2.2.2.2.2.keep hfX (by omega)
  have HX := Lib.hid (And.intro x1 (And.intro x2 (And.intro x3 (And.intro x4 (And.intro x5 x6)))))
  have HFX := Lib.hid hfX
  have HOX := Lib.hid (KeepsOthers.setCell X ⟨gw, 2, none⟩ (.int .i64 (q : Nat)))
  clear x1 x2 x3 x4 x5 x6 hfX d2 g2
  generalize X.setCell ⟨gw, 2, none⟩ (.int .i64 (q : Nat)) = Y at *
  have hK10 : ∀ (w' : World), Fr (fun _ => False) Y w' → K0 { tmps := #[.slice (some ⟨b, off, none⟩) ss.length cap, undef, .pointer (some ⟨w.heap.size, 0, none⟩), .pointer (some ⟨w.heap.size + 1, 0, none⟩), .pointer (some ⟨ga, 0, none⟩), .pointer (some ⟨gw, 0, none⟩), .int .i64 (q : Nat), .pointer (some ⟨Bx, 0, none⟩), .slice (some ⟨b, off, none⟩) ss.length cap, .int .i64 (ss.length : Nat), .bool false, .bool false, .slice (some ⟨b, off, none⟩) ss.length cap, .pointer (some ⟨b, off, none⟩), .agg (cellsB s).toArray, tagV (c, n), .bool true, .bool false, .bool false, undef, .slice (some ⟨b, off, none⟩) ss.length cap, .pointer (some ⟨b, off, none⟩), .agg (cellsB s).toArray, av (s.take 64), .agg #[.int .u64 (c : Nat), .int .i64 (n : Nat), .int .i64 (p : Nat), .int .i64 (m : Nat)], .slice (some ⟨b, off, none⟩) ss.length cap, .func (.func 151) #[] #[.pointer (some ⟨gw + 1, 0, none⟩)], .int .i64 (q : Nat), av h, .int .i64 (q : Nat), .pointer (some ⟨gw, 2, none⟩), av h, .agg #[.int .u64 (c' : Nat), .int .i64 (n' : Nat), .int .i64 (q' : Nat), .int .i64 (m' : Nat)], .agg #[.int .u64 (c : Nat), .int .i64 (n : Nat), .int .i64 (q : Nat), .int .i64 (m : Nat)], .bool (!hdEq ⟨c', n', q', m'⟩ ⟨c, n, q, m⟩), undef, undef, undef, undef, undef, undef, undef, undef, undef, undef, undef, undef], defers := [] } w' := by
   intro w' hfw
   refine hK0 _ _ ?_
   by_cases hE : hdEq ⟨c', n', q', m'⟩ ⟨c, n, q, m⟩ = true
   · rw [hE]
     clear HHD hK0 K0
     have hgood : hdOf h = ⟨c, n, q, m⟩ := by rw [← HY.out]; exact hdEq_iff.1 hE
     have HGO := Lib.hid hgood
     clear hgood
     gi_wp2
     rename_i K1 hK1
     have z1 := HX.out.1.keep hfw (fun q => q)
     have z2 := HX.out.2.1.keep hfw (fun q => q)
     have z3 := HX.out.2.2.1.keep hfw (fun q => q)
     have z4 := own_keep HX.out.2.2.2.1 hfw (fun _ _ q => q)
     have z5 := HX.out.2.2.2.2.1.keep hfw (fun q => q)
     have z6 := (HX.out.2.2.2.2.2.keep hfw (fun q => q)).rd_at 16 48 (by omega)
     have e16 : (h.drop 16).take 48 = h.drop 16 := by rw [List.take_of_length_le]; rw [List.length_drop]; omega
     rw [e16] at z6
     have hzf : Fr (fun j => j = gw) X w' := HFX.out.trans hfw (fun _ _ q => q.elim)
     have hzo : KeepsOthers X w' := HOX.out.trans (Fr.others hfw)
     have hzs := hzf.size
     have hws : w.heap.size ≤ W.heap.size := HI0.out.2.2.2.2.1.size
     obtain ⟨i0, hi, hz0, hz1, hz2⟩ := info_parts infoU8
     have hpl : (pcs pre).length ≤ pre.length * 48 := Nat.le_of_eq (pcs_len pre)
     have HZ := Lib.hid (And.intro z1 (And.intro z2 (And.intro z3 (And.intro z4 (And.intro z5 (And.intro z6 (And.intro hzf (And.intro hzo hpl))))))))
     clear z1 z2 z3 z4 z5 z6 hzf hzo hpl e16
     refine wpIn_round_held (S := fun _ => True) (by kernel_rfl) ?lo3 (by kernel_rfl) ?_
     case lo3 =>
      rintro ⟨a, w, hq⟩
      exact hq
     refine anyH_tk 1 36 (.slice (some ⟨Bx, 16, none⟩) 48 48) rfl rfl (.inl ⟨by rfl, fun w'' _ => by go_simp⟩) trivial ?_
     (simp only [sA, sB, sC])
     refine wpAnyH_all (rs := [0]) (by kernel_rfl) (by simp) ?_
     intro i hi'
     obtain rfl := List.mem_singleton.1 hi'
     have e4 := Blk.cell (w := w'.drew) HZ.out.2.2.1 0
     simp at e4
     refine wpOp_value 35 v (w' := w'.drew) rfl rfl (by rfl) (by go_simp) ?_
     clear e4
     refine ⟨trivial, ?_⟩
     (simp only [sA, sB, sC])
     refine wpAnyH_all (rs := [2]) (by kernel_rfl) (by simp) ?_
     intro i hi'
     obtain rfl := List.mem_singleton.1 hi'
     refine wpOp_of_wp rfl (by rfl) (wp_append_bytes w'.drew (.tmp 35) (.tmp 36) 46 rfl W.heap.size 5 i0 (.int .u8 0) Tryz.underlying46 hi hz0 hz1 hz2 rfl v (pcs pre) (h.drop 16) rfl HZ.out.2.2.2.1 (some ⟨Bx, 16, none⟩) 48 48 rfl HZ.out.2.2.2.2.2.1 (by have := HZ.out.2.2.2.2.2.2.2.2; omega) (by have := HI.out.2.2.2.2.2.2.1; show _ ≤ w'.heap.size; omega) ?_)
     intro v' w2' hown hgrow hat
     refine ⟨trivial, ?_⟩
     rw [put_some (d := 37) rfl]
     (simp only [sA, sB, sC])
     have fA : Fr (fun j => v.ownBlock = some j) w' w2' := (Fr.refl (fun j => v.ownBlock = some j) w').drew.grown hgrow (fun j e => .inl e)
     have z3' := HZ.out.2.2.1.keep fA (own_ne HZ.out.2.2.2.1 HZ.out.2.2.1 (by decide))
     obtain ⟨A', n'', c'', rfl⟩ := own_form hown
     have fB : Fr (fun j => j = ga) w2' (w2'.setCell ⟨ga, 0, none⟩ (.slice A' n'' c'')) := (Fr.refl (fun j => j = ga) w2').setCell (p := ⟨ga, 0, none⟩) (.inl rfl) _
     have y1 := (HZ.out.1.keep fA (own_ne HZ.out.2.2.2.1 HZ.out.1 (by decide))).keep fB (by omega)
     have y2 := (HZ.out.2.1.keep fA (own_ne HZ.out.2.2.2.1 HZ.out.2.1 (by decide))).keep fB (by omega)
     have y3 : Blk (w2'.setCell ⟨ga, 0, none⟩ (.slice A' n'' c'')) ga 46 #[.slice A' n'' c''] := z3'.set_ 0 _
     have y4 := own_keep hown fB (fun j hj e => own_ne hown z3' (by decide) (by rw [hj, e]))
     have y5 := (HZ.out.2.2.2.2.1.keep fA (own_ne HZ.out.2.2.2.1 HZ.out.2.2.2.2.1 (by decide))).keep fB (by omega)
     have hvb : ∀ j, v.ownBlock = some j → W.heap.size ≤ j := fun j hj => (HZ.out.2.2.2.1.lt j hj).1
     have y6 : Fr (fun j => j = w.heap.size ∨ j = w.heap.size + 1 ∨ j = ga ∨ j = gw ∨ W.heap.size ≤ j) X (w2'.setCell ⟨ga, 0, none⟩ (.slice A' n'' c'')) :=
      ((HZ.out.2.2.2.2.2.2.1.mono (fun j _ q => Or.inr (Or.inr (Or.inr (Or.inl q))))).trans fA (fun j _ q => Or.inr (Or.inr (Or.inr (Or.inr (hvb j q)))))).trans fB (fun j _ q => Or.inr (Or.inr (Or.inl q)))
     have y7 : KeepsOthers X (w2'.setCell ⟨ga, 0, none⟩ (.slice A' n'' c'')) := ((HZ.out.2.2.2.2.2.2.2.1.trans (KeepsOthers.drew w')).trans (KeepsOthers.of_grownBy hgrow (own_cells HZ.out.2.2.2.1))).trans (KeepsOthers.setCell _ _ _)
     have y8 : Fr (fun _ => False) w (w2'.setCell ⟨ga, 0, none⟩ (.slice A' n'' c'')) := HI.out.2.2.2.2.2.1.trans y6 (fun j hj q => by omega)
     have e4 := z3'.cell 0
     have f4 := z3'.frozen 0
     simp at e4
     have HQ := Lib.hid (And.intro y1 (And.intro y2 (And.intro y3 (And.intro y4 (And.intro y5 (And.intro y6 (And.intro y7 y8)))))))
     clear y1 y2 y3 y4 y5 y6 y7 y8 fA fB z3' hown hgrow hat hvb
     refine wpAnyH_all (rs := [3]) (by kernel_rfl) (by simp) ?_
     intro i hi'
     obtain rfl := List.mem_singleton.1 hi'
     refine wpOp_skip rfl rfl (by rfl) (w' := w2'.setCell ⟨ga, 0, none⟩ (.slice A' n'' c'')) (by go_simp) ?_
     clear e4 f4
     refine ⟨trivial, wpAnyH_done (by kernel_rfl) ?_ _⟩
     refine hK1 _ _ ?_
     clear hK1 K1
     have hpc : pcs pre ++ h.drop 16 = pcs (pre ++ [⟨(q, h), hq, hh⟩]) := by simp [pcs]
     rw [hpc] at HQ
     clear hpc
     generalize w2'.setCell ⟨ga, 0, none⟩ (.slice A' n'' c'') = Z at *
     have p2 := HQ.out.2.2.2.2.1.cell 3
     simp at p2
     have hwr : IntKind.i64.wrap ((q : Int) + 1) = (q : Int) + 1 := by simp [IntKind.wrap, IntKind.signed, IntKind.bits]; omega
     by_cases hlast : q + 1 = m
     · have hl2 : ((q : Int) + 1 == (m : Int)) = true := by rw [beq_iff_eq]; omega
       gi_wp2
       rename_i K2 hK2
       have hend : ∀ (V : World), Fr (fun j => j = w.heap.size ∨ j = w.heap.size + 1) Z V → KeepsOthers Z V → Blk V w.heap.size 148 #[.int .u64 (c : Nat), .int .i64 (n : Nat)] → Blk V (w.heap.size + 1) 46 #[.slice A' n'' c''] → V.ownsRow W.heap.size 5 1 (.slice A' n'' c'') (pcs (pre ++ [⟨(q, h), hq, hh⟩])).length (cellsB (pcs (pre ++ [⟨(q, h), hq, hh⟩]))) → ∀ a, K2 a V := by
        intro V v1 v2 v3 v4 v5 a
        refine hK2 _ _ ?_
        have HV := Lib.hid (And.intro v1 (And.intro v2 (And.intro v3 (And.intro v4 v5))))
        clear v1 v2 v3 v4 v5 hK2 K2
        gi_wp2
        exact ⟨(HQ.out.2.2.2.2.2.2.1.trans HV.out.2.1).from _, HQ.out.2.2.2.2.2.2.2.trans HV.out.1 (fun j hj q => by omega), .inr ⟨rfl, HV.out.2.2.1, ⟨_, HV.out.2.2.2.1, HV.out.2.2.2.2⟩, pre, ⟨(q, h), hq, hh⟩, rfl, HI.out.2.2.2.2.2.2.2.1, HGO.out, hlast⟩⟩
       have hS0 : Fr (fun j => j = w.heap.size ∨ j = w.heap.size + 1) Z Z.drew := (Fr.refl _ Z).drew
       refine wpIn_round_held (S := fun w' => Fr (fun j => j = w.heap.size ∨ j = w.heap.size + 1) Z w') (by kernel_rfl) ?lo4 (by kernel_rfl) ?_
       case lo4 =>
        rintro ⟨a, w, hq⟩
        exact hq
       refine anyH_tk 0 43 (.pointer (some ⟨gw, 0, none⟩)) rfl rfl (.inl ⟨by rfl, fun w'' _ => by go_simp⟩) hS0 ?_
       (simp only [sA, sB, sC])
       refine anyH_tk 1 44 (.agg #[.int .u64 (c : Nat), .int .i64 (n : Nat)]) rfl rfl (.inl ⟨by rfl, ?v44⟩) hS0 ?_
       case v44 =>
        intro w'' hS
        have hb := HQ.out.2.2.2.2.1.keep hS (by omega)
        have e0 := hb.cell 0
        have e1 := hb.cell 1
        simp at e0 e1
        go_simp
       (simp only [sA, sB, sC])
       refine anyH_tk 2 45 (.slice A' n'' c'') rfl rfl (.inl ⟨by rfl, ?v45⟩) hS0 ?_
       case v45 =>
        intro w'' hS
        have hb := HQ.out.2.2.1.keep hS (by omega)
        have e0 := hb.cell 0
        simp at e0
        go_simp
       (simp only [sA, sB, sC])
       have u2 : Blk Z.drew w.heap.size 148 #[.int .u64 0, .int .i64 0] := HQ.out.1
       have u3 : Blk Z.drew (w.heap.size + 1) 46 #[.slice none 0 0] := HQ.out.2.1
       have u4 : Z.drew.ownsRow W.heap.size 5 1 (.slice A' n'' c'') (pcs (pre ++ [⟨(q, h), hq, hh⟩])).length (cellsB (pcs (pre ++ [⟨(q, h), hq, hh⟩]))) := own_keep HQ.out.2.2.2.1 (F := fun _ => False) ((Fr.refl _ Z).drew) (fun _ _ q => q)
       have uo : KeepsOthers Z Z.drew := KeepsOthers.drew Z
       refine wpAnyH_all (rs := [3]) (by kernel_rfl) (by simp) ?_
       intro i hi'
       obtain rfl := List.mem_singleton.1 hi'
       have b2 : Blk Z.drew w.heap.size 148 #[.int .u64 0, .int .i64 0] := u2
       have q0 := b2.cell 0
       have q1 := b2.cell 1
       have r0 := HQ.out.1.frozen 0
       have r1 := HQ.out.1.frozen 1
       simp at q0 q1
       refine wpOp_skip rfl rfl (by rfl) (w' := (Z.drew.setCell ⟨w.heap.size, 0, none⟩ (.int .u64 (c : Nat))).setCell ⟨w.heap.size, 1, none⟩ (.int .i64 (n : Nat))) (by go_simp) ?_
       clear q0 q1 r0 r1
       have gA : Fr (fun j => j = w.heap.size) Z.drew ((Z.drew.setCell ⟨w.heap.size, 0, none⟩ (.int .u64 (c : Nat))).setCell ⟨w.heap.size, 1, none⟩ (.int .i64 (n : Nat))) := ((Fr.refl (fun j => j = w.heap.size) Z.drew).setCell (p := ⟨w.heap.size, 0, none⟩) (.inl rfl) _).setCell (p := ⟨w.heap.size, 1, none⟩) (.inl rfl) _
       have s2 := (u2.set_ 0 (.int .u64 (c : Nat))).set_ 1 (.int .i64 (n : Nat))
       have s3 := u3.keep gA (by omega)
       have s4 := own_keep u4 gA (fun j hj e => own_ne u4 u2 (by decide) (by rw [hj, e]))
       have so := (uo.trans (KeepsOthers.setCell _ ⟨w.heap.size, 0, none⟩ (.int .u64 (c : Nat)))).trans (KeepsOthers.setCell _ ⟨w.heap.size, 1, none⟩ (.int .i64 (n : Nat)))
       have sf := hS0.trans gA (fun j _ q => Or.inl q)
       generalize (Z.drew.setCell ⟨w.heap.size, 0, none⟩ (.int .u64 (c : Nat))).setCell ⟨w.heap.size, 1, none⟩ (.int .i64 (n : Nat)) = V1 at *
       refine ⟨sf, ?_⟩
       refine wpAnyH_all (rs := [4]) (by kernel_rfl) (by simp) ?_
       intro i hi'
       obtain rfl := List.mem_singleton.1 hi'
       have b3 : Blk V1 (w.heap.size + 1) 46 #[.slice none 0 0] := s3
       have q0 := b3.cell 0
       have r0 := b3.frozen 0
       simp at q0
       refine wpOp_skip rfl rfl (by rfl) (w' := V1.setCell ⟨w.heap.size + 1, 0, none⟩ (.slice A' n'' c'')) (by go_simp) ?_
       clear q0 r0
       have gB : Fr (fun j => j = w.heap.size + 1) V1 (V1.setCell ⟨w.heap.size + 1, 0, none⟩ (.slice A' n'' c'')) := (Fr.refl (fun j => j = w.heap.size + 1) V1).setCell (p := ⟨w.heap.size + 1, 0, none⟩) (.inl rfl) _
       have tf := sf.trans gB (fun j _ q => Or.inr q)
       exact ⟨tf, wpAnyH_done (by kernel_rfl) (hend _ tf (so.trans (KeepsOthers.setCell _ _ _)) (Blk.keep s2 gB (by omega)) (s3.set_ 0 _) (own_keep s4 gB (fun j hj e => own_ne s4 s3 (by decide) (by rw [hj, e]))) _) _⟩
     · have hl2 : ((q : Int) + 1 == (m : Int)) = false := by rw [beq_eq_false_iff_ne]; omega
       gi_wp2
       exact ⟨HQ.out.2.2.2.2.2.2.1.from _, HQ.out.2.2.2.2.2.1, HQ.out.1, HQ.out.2.1, ⟨_, HQ.out.2.2.1, HQ.out.2.2.2.1⟩, ⟨q, HQ.out.2.2.2.2.1⟩, HQ.out.2.2.2.2.2.2.2, Nat.le_trans HI.out.2.2.2.2.2.2.1 HQ.out.2.2.2.2.2.1.size, fun y hy => by
        rcases List.mem_append.1 hy with e | e
        · exact HI.out.2.2.2.2.2.2.2.1 y e
        · rw [List.mem_singleton.1 e]
          exact ⟨HGO.out, hlast⟩⟩
   · rw [Bool.not_eq_true] at hE
     rw [hE]
     clear HHD hK0 K0
     gi_wp2
     have hbad : hdOf h ≠ ⟨c, n, q, m⟩ := fun e => by
      rw [HY.out, e] at hE
      rw [hdEq_iff.2 rfl] at hE
      cases hE
     exact ⟨(HOX.out.trans (Fr.others hfw)).from _, (HI.out.2.2.2.2.2.1.trans HFX.out (fun j hj q => by omega)).trans hfw (fun _ _ q => q), .inl ⟨rfl, HX.out.1.keep hfw (fun q => q), HX.out.2.1.keep hfw (fun q => q), pre, ⟨(q, h), hq, hh⟩, rfl, HI.out.2.2.2.2.2.2.2.1, hbad⟩⟩
  have hS0 : Fr (fun _ => False) Y Y.drew := (Fr.refl _ Y).drew
  refine wpIn_round_held (S := fun w' => Fr (fun _ => False) Y w') (by kernel_rfl) ?lo (by kernel_rfl) ?_
  case lo =>
   rintro ⟨a, w, hq⟩
   exact hq
  refine anyH_tk 0 31 (av h) rfl rfl (yieldsIf_load_mid (by rfl) 177 _ rfl Bx 0 rfl (cellsB h) _ (fun w' hS => by
   have := (HX.out.2.2.2.2.2.keep hS (fun q => q)).range 0 64
   rw [List.drop_zero, List.take_of_length_le (Nat.le_of_eq hh)] at this
   exact this) Tryz.underlying177 rfl (by rw [infoHalf, cellsB_len, hh])) hS0 ?_
  (simp only [sA, sB, sC])
  refine anyH_tk 2 33 (.agg #[.int .u64 (c : Nat), .int .i64 (n : Nat), .int .i64 (q : Nat), .int .i64 (m : Nat)]) rfl rfl (.inl ⟨by rfl, ?v2⟩) hS0 ?_
  case v2 =>
   intro w' hS
   have hb := HX.out.2.2.2.2.1.keep hS (fun q => q)
   have e0 := hb.cell 0
   have e1 := hb.cell 1
   have e2 := hb.cell 2
   have e3 := hb.cell 3
   simp at e0 e1 e2 e3
   go_simp
  (simp only [sA, sB, sC])
  refine wpAnyH_all (rs := [1]) (by kernel_rfl) (by simp) ?_
  intro i hi
  obtain rfl := List.mem_singleton.1 hi
  refine wpOp_call 32 rfl rfl (by rfl) (f := 139) (args := #[av h]) (by go_simp) ?_
  refine (HHD.out _).mono ?_
  rintro e y1 ⟨rfl, y1f⟩
  have y1g : Fr (fun _ => False) Y y1 := Fr.trans hS0 y1f (fun _ _ q => q)
  refine ⟨_, rfl, y1g, ?_⟩
  (simp only [sA, sB, sC])
  have hcmp := hd_neq c' n' q' m' c n q m
  refine anyH_tk 3 34 (.bool (!hdEq ⟨c', n', q', m'⟩ ⟨c, n, q, m⟩)) rfl rfl (.inl ⟨by rfl, ?v3⟩) y1g ?_
  case v3 =>
   intro w' hS
   go_simp
  (simp only [sA, sB, sC])
  exact wpAnyH_done (by kernel_rfl) (hK10 _ y1g) _
 case done =>
  rintro D xs X hD rfl ⟨h1, h2, ⟨v, h3, h4⟩, ⟨pl, h5⟩, h6, h7, h8⟩ hK
  have c0 := h1.cell 0
  have c1 := h1.cell 1
  have f0 := h1.frozen 0
  have f1 := h1.frozen 1
  have d0 := h2.cell 0
  have g0 := h2.frozen 0
  simp at c0 c1 d0
  have HI := Lib.hid (And.intro h1 (And.intro h2 (And.intro h6 h8)))
  clear h1 h2 h3 h4 h5 h6 h7 h8
  gi_wp2
  obtain ⟨e2, e3, hfr⟩ := none_cells HI.out.1 HI.out.2.1 (by omega) HI.out.2.2.1 (Nat.le_refl _) (by omega)
  have hK1 := (((KeepsOthers.setCell X ⟨w.heap.size, 0, none⟩ (.int .u64 0)).trans (KeepsOthers.setCell _ ⟨w.heap.size, 1, none⟩ (.int .i64 0))).trans (KeepsOthers.setCell _ ⟨w.heap.size + 1, 0, none⟩ (.slice none 0 0))).same D _ hK rfl
  obtain ⟨z1, z2, z3⟩ := fin_put hK1 hD (by have := HI0.out.2.2.2.2.1.size; exact this) hfr
  refine ⟨by simp, .inl ⟨_, _, rfl, run_takeDeferred hK1, ?_⟩⟩
  have hnone := tog_done HSEC.out.2.1 h00 HSEC.out.2.2.1 HI.out.2.2.2
  exact ⟨_, results_tog rfl rfl (z2 e2) (z2 e3), fun _ => rfl, (fun l hl => by rw [hnone] at hl; cases hl), z1⟩
 case stop =>
  rintro D c' pre X hD ⟨k, hk, rfl⟩ ⟨h1, ⟨rfl, h2, h3, pre', x, hpx, hgd, hbad⟩ | ⟨rfl, h2, ⟨v, h3, h4⟩, pre', x, hpx, hgd, hgood, hlast⟩⟩ hK
  · have c0 := h2.cell 0
    have c1 := h2.cell 1
    have f0 := h2.frozen 0
    have f1 := h2.frozen 1
    have d0 := h3.cell 0
    have g0 := h3.frozen 0
    simp at c0 c1 d0
    have HI := Lib.hid (And.intro h2 (And.intro h3 h1))
    have HG := Lib.hid (And.intro hpx (And.intro hgd hbad))
    clear h1 h2 h3 hpx hgd hbad
    gi_wp2
    obtain ⟨e2, e3, hfr⟩ := none_cells HI.out.1 HI.out.2.1 (by omega) HI.out.2.2 (Nat.le_refl _) (by omega)
    have hK1 := (((KeepsOthers.setCell X ⟨w.heap.size, 0, none⟩ (.int .u64 0)).trans (KeepsOthers.setCell _ ⟨w.heap.size, 1, none⟩ (.int .i64 0))).trans (KeepsOthers.setCell _ ⟨w.heap.size + 1, 0, none⟩ (.slice none 0 0))).same D _ hK rfl
    obtain ⟨z1, z2, z3⟩ := fin_put hK1 hD (by have := HI0.out.2.2.2.2.1.size; exact this) hfr
    refine ⟨by simp, .inl ⟨_, _, rfl, run_takeDeferred hK1, ?_⟩⟩
    have hnone : togOf ss = none := by
     obtain ⟨hpx, hgd, hbad⟩ := HG.out
     obtain ⟨j, rfl, rfl, rfl⟩ := upto_split hpx
     obtain ⟨a1, a2⟩ := fhOf_at HSEC.out.2.1 h00 (k := j) (by omega)
     rw [a1, a2] at hbad
     exact tog_break HSEC.out.2.1 h00 HSEC.out.2.2.1 (by omega) hgd hbad
    exact ⟨_, results_tog rfl rfl (z2 e2) (z2 e3), fun _ => rfl, (fun l hl => by rw [hnone] at hl; cases hl), z1⟩
  · have HI := Lib.hid (And.intro h2 (And.intro h3 (And.intro h4 h1)))
    have HG := Lib.hid (And.intro hpx (And.intro hgd (And.intro hgood hlast)))
    clear h1 h2 h3 h4 hpx hgd hgood hlast
    gi_wp2
    obtain ⟨z1, z2, z3⟩ := fin_put hK hD (by have := HI0.out.2.2.2.2.1.size; exact this) HI.out.2.2.2
    refine ⟨by simp, .inl ⟨_, _, rfl, run_takeDeferred hK, ?_⟩⟩
    have hsome : togOf ss = some (pcs (upto (fhOf ss HSEC.out.2.1 h00) k)) := by
     obtain ⟨hpx, hgd, hgood, hlast⟩ := HG.out
     obtain ⟨j, rfl, rfl, rfl⟩ := upto_split hpx
     obtain ⟨a1, a2⟩ := fhOf_at HSEC.out.2.1 h00 (k := j) (by omega)
     rw [a1, a2] at hgood
     rw [a1] at hlast
     exact tog_last HSEC.out.2.1 h00 HSEC.out.2.2.1 (by omega) hgd hgood hlast
    refine ⟨_, results_tog rfl rfl (z2 HI.out.1) (z2 HI.out.2.1), (fun h => by rw [hsome] at h; cases h), fun l hl => ?_, z1⟩
    rw [hsome] at hl
    injection hl with hl
    subst hl
    have hown := z3 HI.out.2.2.1
    obtain ⟨A, cp, rfl, hA, hlc, _, hr⟩ := own_rd hown
    refine ⟨A, cp, rfl, hr, hlc, hA, fun ad had => ?_⟩
    subst had
    have h9 := hown.lt ad.block rfl
    have h8 := HI0.out.2.2.2.2.1.size
    exact ⟨by omega, h9.2⟩
end Go.Proofs.YtcnlgbjkjlbmbaaGreat

namespace Go.Proofs.YtcnlgbjkjlbmbaaGreat
open Go.RowKit

def SecIn (w : World) (v : Value) (ss : List (List UInt8)) : Prop :=
 (ss = [] ∧ ∃ A cap, v = .slice A 0 cap) ∨ ∃ b off cap, v = .slice (some ⟨b, off, none⟩) ss.length cap ∧ 0 < ss.length ∧ SecsAt w b off ss
set_option maxRecDepth 100000 in
theorem SecsAt.keep {F : Nat → Prop} {w w' : World} {b off : Nat} {ss : List (List UInt8)} (h : SecsAt w b off ss) (hf : Fr F w w') (hF : ¬ F b) : SecsAt w' b off ss := fun i s hi => ⟨(h i s hi).1, fun j v hv => by
 have h1 := (h i s hi).2 j v hv
 exact (hf.cell (World.block_lt_of_cell? w _ h1) hF).trans h1⟩
set_option maxRecDepth 100000 in
theorem SecIn.new {w w' : World} {v : Value} {ss : List (List UInt8)} (h : SecIn w v ss) (hf : Fr (fun _ => False) w w') : SecIn w' v ss := by
 rcases h with h | ⟨b, off, cap, e, h0, h⟩
 · exact .inl h
 · exact .inr ⟨b, off, cap, e, h0, h.keep hf (fun q => q)⟩

def tagAt (ss : List (List UInt8)) : Nat × Nat := ((hdOf (hv ss 0)).c, (hdOf (hv ss 0)).n)
def togAll (ss : List (List UInt8)) : Option (List UInt8) := if ss = [] then none else if mayT (tagAt ss).1 ((tagAt ss).2 : Int) then togOf ss else none
def joinOf (ss : List (List UInt8)) : Option (List UInt8) := (togAll ss).bind conOf

set_option maxRecDepth 100000 in
theorem tog_any {w : World} {v : Value} {ss : List (List UInt8)} (h : SecIn w v ss) (hreach : ss.length ≤ 1099511627776) :
 Calls Tryz.prog 122 #[v] w (TogR w (tagAt ss).1 (tagAt ss).2 (togAll ss)) := by
 rcases h with ⟨rfl, A, cap, rfl⟩ | ⟨b, off, cap, rfl, hl, h⟩
 · refine (tog_nil w A cap).mono ?_
   rintro e w' ⟨rfl, hf⟩
   exact ⟨fun _ => rfl, (fun l hl => by simp [togAll] at hl), hf⟩
 · have hne : ss ≠ [] := by intro e; rw [e] at hl; simp at hl
   obtain ⟨s, h0⟩ : ∃ s, ss[0]? = some s := ⟨_, List.getElem?_eq_getElem hl⟩
   have hv0 : hv ss 0 = s.take 64 := by simp [hv, h0]
   cases hm : mayT (tagAt ss).1 ((tagAt ss).2 : Int) with
   | false =>
     have e1 : togAll ss = none := by unfold togAll; rw [if_neg hne, hm]; rfl
     have e2 : tagOf s = (0, 0) := by
      unfold tagOf
      simp only [tagAt, hv0] at hm
      simp [hm]
     refine (tog_bad h h0 (by rw [e2]; decide)).mono ?_
     rintro e w' ⟨rfl, hf⟩
     exact ⟨fun _ => rfl, (fun l hl => by rw [e1] at hl; cases hl), hf⟩
   | true =>
     have e1 : togAll ss = togOf ss := by unfold togAll; rw [if_neg hne, hm]; rfl
     rw [e1]
     exact tog_ok h h0 hreach (c := (tagAt ss).1) (n := (tagAt ss).2) (p := (hdOf (hv ss 0)).p) (m := (hdOf (hv ss 0)).m) rfl hm

set_option maxRecDepth 100000 in
theorem togOf_len {ss : List (List UInt8)} (hs : ∀ s ∈ ss, s.length = 128) {l : List UInt8} (h : togOf ss = some l) : l.length % 48 = 0 ∧ l.length ≤ ss.length * 96 := by
 unfold togOf at h
 simp only at h
 split at h
 · rename_i hc
   injection h with h
   subst h
   have hl : ∀ m, ((List.range m).flatMap fun k => (hv ss k).drop 16).length = m * 48 := fun m => by
    induction m with
    | zero => rfl
    | succ m ih =>
      rw [List.range_succ, List.flatMap_append, List.length_append, ih]
      simp [hv_len hs]
      omega
   rw [hl]
   omega
 · cases h

def JoinR (w : World) (t : Nat × Nat) (o : Option (List UInt8)) (e : Ending) (w' : World) : Prop :=
 (o = none → e = .returned (.tuple #[.agg #[.int .u64 0, .int .i64 0], .slice none 0 0, .int .i64 0, .int .i64 4])) ∧
   (∀ b, o = some b → ∃ A, e = .returned (.tuple #[.agg #[.int .u64 (t.1 : Nat), .int .i64 (t.2 : Nat)], .slice A b.length b.length, .int .i64 (needN b.length : Nat), .int .i64 0]) ∧ Rd w' A b.length b) ∧ Fr (fun _ => False) w w'

set_option maxRecDepth 100000 in
theorem results_join {tmps : Array Value} {w : World} {g2 : Nat} {x y a b c : Value} (h2 : tmps.getD 2 undef = .pointer (some ⟨g2, 0, none⟩)) (h3 : tmps.getD 3 undef = a) (h4 : tmps.getD 4 undef = b) (h5 : tmps.getD 5 undef = c)
 (b2 : Blk w g2 148 #[x, y]) : (results Tryz.f102 tmps).run Tryz.prog w = .ok (.tuple #[.agg #[x, y], a, b, c]) w := by
 have e2 := run_loadVar_row (P := Tryz.prog) w g2 148 148 #[x, y] (0, 0) _ b2 Tryz.underlying148 rfl infoTag
 have h2' : tmps[2]?.getD undef = .pointer (some ⟨g2, 0, none⟩) := by simpa using h2
 have h3' : tmps[3]?.getD undef = a := by simpa using h3
 have h4' : tmps[4]?.getD undef = b := by simpa using h4
 have h5' : tmps[5]?.getD undef = c := by simpa using h5
 simp [results, Tryz.f102, h2', h3', h4', h5', asAddr, e2]

set_option maxRecDepth 100000 in
theorem join_any {w : World} {v : Value} {ss : List (List UInt8)} (h : SecIn w v ss) (hreach : ss.length ≤ 1099511627776) :
 Calls Tryz.prog 102 #[v] w (JoinR w (tagAt ss) (joinOf ss)) := by
 have h1 : SecIn (w.alloc (.cells #[.int .u64 0, .int .i64 0] 148)) v ss := h.new ((Fr.refl _ w).alloc _)
 have HT := Lib.hid (tog_any h1 hreach)
 have HH := Lib.hid h
 clear h h1
 have hss : ∀ s ∈ ss, s.length = 128 := fun s hs => by
  rcases HH.out with ⟨rfl, _⟩ | ⟨b, off, cap, _, _, h⟩
  · cases hs
  · obtain ⟨i, hi, rfl⟩ := List.getElem_of_mem hs
    exact (h i _ (List.getElem?_eq_getElem hi)).1
 have HSS := Lib.hid hss
 clear hss
 obtain ⟨t, ht⟩ : ∃ t, t = tagAt ss := ⟨_, rfl⟩
 obtain ⟨o, ho⟩ : ∃ o, o = joinOf ss := ⟨_, rfl⟩
 rw [← ht, ← ho]
 rw [← ht] at HT
 obtain ⟨t1, t2⟩ := t
 have HO := Lib.hid ho
 clear ht ho
 go_enter Tryz.func102, Tryz.ntmps102
 go_wp2_with fail
 (with_reducible refine HT.out.mono ?_)
 rintro e w1 hr
 have key : ∃ (x y : Nat) (A : Option Addr) (n cp : Nat) (l : List UInt8), e = .returned (.tuple #[.agg #[.int .u64 (x : Nat), .int .i64 (y : Nat)], .slice A n cp]) ∧ Rd w1 A n l ∧ n ≤ cp ∧ (A = none → cp = 0) ∧ l.length % 48 = 0 ∧ n ≤ 140737488355328 ∧ (∀ ad, A = some ad → w.heap.size < ad.block ∧ ad.block < w1.heap.size) ∧ o = conOf l ∧ (conOf l ≠ none → x = t1 ∧ y = t2) := by
  obtain ⟨r1, r2, r3⟩ := hr
  cases hq : togAll ss with
  | none =>
    exact ⟨0, 0, none, 0, 0, [], r1 hq, Rd.nil _ _, Nat.le_refl _, fun _ => rfl, rfl, by omega, (fun ad h => by cases h), by rw [HO.out]; unfold joinOf; rw [hq]; rfl, fun h => absurd rfl h⟩
  | some l =>
    obtain ⟨A, cp, e1, e2, e3, e4, e5⟩ := r2 l hq
    have hl : l.length % 48 = 0 ∧ l.length ≤ ss.length * 96 := by
     unfold togAll at hq
     split at hq
     · cases hq
     · split at hq
       · exact togOf_len HSS.out hq
       · cases hq
    exact ⟨t1, t2, A, l.length, cp, l, e1, e2, e3, e4, hl.1, by omega, (fun ad h => ⟨by have := (e5 ad h).1; simp at this; omega, (e5 ad h).2⟩), by rw [HO.out]; unfold joinOf; rw [hq]; rfl, fun _ => ⟨rfl, rfl⟩⟩
 obtain ⟨x, y, A, n, cp, l, rfl, hrd, hncp, hA, h48, hnb, hblk, hoo, hxy⟩ := key
 have b2 : Blk w1 w.heap.size 148 #[.int .u64 0, .int .i64 0] := (Blk.new w _ _).keep hr.2.2 (fun q => q)
 have hf1 : Fr (fun _ => False) w w1 := ((Fr.refl _ w).alloc _).trans hr.2.2 (fun _ _ q => q)
 have h6 := Blk.new w1 148 #[.int .u64 (x : Nat), .int .i64 (y : Nat)]
 have hfa : Fr (fun _ => False) w1 (w1.alloc (.cells #[.int .u64 (x : Nat), .int .i64 (y : Nat)] 148)) := (Fr.refl _ w1).alloc _
 have HC := Lib.hid (content_any (w := w1.alloc (.cells #[.int .u64 (x : Nat), .int .i64 (y : Nat)] 148)) (hrd.keep hfa (fun _ _ q => q)) hA hncp h48 hnb (fun ad h => Nat.lt_of_lt_of_le (hblk ad h).2 hfa.size))
 have HB := Lib.hid (And.intro (b2.keep hfa (fun q => q)) (And.intro h6 (hf1.trans hfa (fun _ _ q => q))))
 have HXY := Lib.hid (And.intro hoo hxy)
 have HAB := Lib.hid fun ad h => (hblk ad h).1
 have hgs : w.heap.size < w1.heap.size := b2.lt
 clear hr hrd hA hncp h48 hnb hblk hoo hxy b2 hf1 h6 hfa HT HO HH HSS
 go_wp2_with fail
 (with_reducible refine HC.out.mono ?_)
 rintro e w3 ⟨c1, c2, c3⟩
 have b2 := HB.out.1.keep c3 (fun q => q)
 have b6 := HB.out.2.1.keep c3 (fun q => q)
 have hf3 := HB.out.2.2.trans c3 (fun _ _ q => q)
 have e0 := b2.cell 0
 have e1 := b2.cell 1
 have f0 := b2.frozen 0
 have f1 := b2.frozen 1
 have d0 := b6.cell 0
 have d1 := b6.cell 1
 simp at e0 e1 d0 d1
 cases hc : conOf l with
 | none =>
   obtain rfl := c1 hc
   have hon : o = none := by rw [HXY.out.1, hc]
   have HH3 := Lib.hid (And.intro b2 hf3)
   clear c1 c2 c3 b2 b6 hf3 HC
   go_wp2_with fail
   have z := (HH3.out.1.set_ 0 (.int .u64 0)).set_ 1 (.int .i64 0)
   refine bodyPost_ret (results_join rfl rfl rfl rfl z) rfl ⟨fun _ => rfl, (fun b hb => by rw [hon] at hb; cases hb), (HH3.out.2.setCell (p := ⟨w.heap.size, 0, none⟩) (.inr (Nat.le_refl _)) _).setCell (p := ⟨w.heap.size, 1, none⟩) (.inr (Nat.le_refl _)) _⟩
 | some b =>
   obtain ⟨A', rfl, hrb, hbl⟩ := c2 b hc
   obtain ⟨rfl, rfl⟩ := HXY.out.2 (by rw [hc]; exact fun h => by cases h)
   have hon : o = some b := by rw [HXY.out.1, hc]
   have HH3 := Lib.hid (And.intro b2 (And.intro hf3 (And.intro hrb hon)))
   have HA' : Hid (∀ ad, A' = some ad → w.heap.size < ad.block) := Lib.hid fun ad had => by
    obtain ⟨ad0, h0, h1⟩ := hbl ad had
    rw [h1]
    exact HAB.out ad0 h0
   have HN := Lib.hid fun w => need_any w (b.length : Int)
   have HKP : Hid (∀ u v', (((w3.setCell ⟨w.heap.size, 0, none⟩ u).setCell ⟨w.heap.size, 1, none⟩ v').drew.cell? ⟨w1.heap.size, 0, none⟩ = some (.int .u64 (x : Nat))) ∧ (((w3.setCell ⟨w.heap.size, 0, none⟩ u).setCell ⟨w.heap.size, 1, none⟩ v').drew.cell? ⟨w1.heap.size, 1, none⟩ = some (.int .i64 (y : Nat)))) := Lib.hid fun u v' => by
    have ff : Fr (fun j => j = w.heap.size) w3 ((w3.setCell ⟨w.heap.size, 0, none⟩ u).setCell ⟨w.heap.size, 1, none⟩ v').drew := (((Fr.refl (fun j => j = w.heap.size) w3).setCell (p := ⟨w.heap.size, 0, none⟩) (.inl rfl) _).setCell (p := ⟨w.heap.size, 1, none⟩) (.inl rfl) _).drew
    have hbk := b6.keep ff (by omega)
    have k0 := hbk.cell 0
    have k1 := hbk.cell 1
    exact ⟨by simpa using k0, by simpa using k1⟩
   clear c1 c2 c3 b2 b6 hf3 HC hrb hon hbl
   go_wp2_with fail
   go_region_held3 (fun w' => w'.cell? ⟨w1.heap.size, 0, none⟩ = some (.int .u64 (x : Nat)) ∧ w'.cell? ⟨w1.heap.size, 1, none⟩ = some (.int .i64 (y : Nat)))
    (first | (exact HKP.out (.int .u64 (x : Nat)) (.int .i64 (y : Nat))) | (exact (HKP.out (.int .u64 (x : Nat)) (.int .i64 (y : Nat))).1) | (exact (HKP.out (.int .u64 (x : Nat)) (.int .i64 (y : Nat))).2) | go_keep)
    ((first
      | (go_at_call 81; refine (HN.out _).mono ?_; rintro e w4 ⟨rfl, rfl⟩)))
   all_goals
    go_wp2_with fail
    have z : Blk ((w3.setCell ⟨w.heap.size, 0, none⟩ (.int .u64 (x : Nat))).setCell ⟨w.heap.size, 1, none⟩ (.int .i64 (y : Nat))).drew w.heap.size 148 #[.int .u64 (x : Nat), .int .i64 (y : Nat)] := (HH3.out.1.set_ 0 _).set_ 1 _
    have zf : Fr (fun j => j = w.heap.size) w3 ((w3.setCell ⟨w.heap.size, 0, none⟩ (.int .u64 (x : Nat))).setCell ⟨w.heap.size, 1, none⟩ (.int .i64 (y : Nat))).drew := (((Fr.refl (fun j => j = w.heap.size) w3).setCell (p := ⟨w.heap.size, 0, none⟩) (.inl rfl) _).setCell (p := ⟨w.heap.size, 1, none⟩) (.inl rfl) _).drew
    refine bodyPost_ret (results_join rfl rfl rfl rfl z) rfl ⟨(fun hn => by rw [HH3.out.2.2.2] at hn; cases hn), fun b' hb' => ?_, HH3.out.2.1.trans zf (fun j hj q => by omega)⟩
    rw [HH3.out.2.2.2] at hb'
    injection hb' with hb'
    subst hb'
    exact ⟨A', rfl, HH3.out.2.2.1.keep zf (fun ad had q => by have := HA'.out ad had; omega)⟩
end Go.Proofs.YtcnlgbjkjlbmbaaGreat


