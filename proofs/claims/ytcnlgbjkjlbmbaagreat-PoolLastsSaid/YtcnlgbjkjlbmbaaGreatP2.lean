/- P2: laid together out of Vch Vof Vrt Vri Vrj Vlg Vtr Vby Vco Vop Vog. -/
import Derived.Maps.OwnIn
import Derived.Test.YtcnlgbjkjlbmbaaGreatP1
namespace Go.Proofs.YtcnlgbjkjlbmbaaGreat
open Go.RowKit

structure Chg where
 n : Int
 p : List UInt8
 deriving DecidableEq
abbrev chC (x : Chg) : List Value := .int .i64 x.n :: cellsB x.p
set_option maxRecDepth 100000 in
theorem chC_len {x : Chg} (h : x.p.length = 512) : (chC x).length = 513 := by simp [chC, cellsB_len, h]
set_option maxRecDepth 100000 in
theorem chC_one (x : Chg) : ∀ u ∈ chC x, u.oneCell' = true := fun u hu => by
 rcases List.mem_cons.1 hu with rfl | hu
 · rfl
 · exact cellsB_one _ u hu
abbrev zChg : Chg := ⟨0, nought 512⟩
set_option maxRecDepth 100000 in
theorem zeroPage (w : World) : (zeroValue 50).run Tryz.prog w = .ok (av (nought 512)) w := by
 have h : (Tryz.prog.info? 50).bind (·.zero) = some (av (nought 512)) := by kernel_rfl
 cases hi : Tryz.prog.info? 50 with
 | none => rw [hi] at h; cases h
 | some i =>
   rw [hi] at h
   simp only [Option.bind_some] at h
   simp [zeroValue, typeInfo, hi, h]
set_option maxRecDepth 100000 in
theorem zeroChg (w : World) : (zeroValue 101).run Tryz.prog w = .ok (.agg (chC zChg).toArray) w := by
 have h : (Tryz.prog.info? 101).bind (·.zero) = some (.agg (chC zChg).toArray) := by kernel_rfl
 cases hi : Tryz.prog.info? 101 with
 | none => rw [hi] at h; cases h
 | some i =>
   rw [hi] at h
   simp only [Option.bind_some] at h
   simp [zeroValue, typeInfo, hi, h]
set_option maxRecDepth 100000 in
theorem infoPg : (Tryz.prog.info? 50).map (fun i => (i.zero, i.size, i.bytes)) = some (some (av (nought 512)), 512, 512) := by kernel_rfl
set_option maxRecDepth 100000 in
theorem infoChg : (Tryz.prog.info? 101).map (fun i => (i.zero, i.size, i.bytes)) = some (some (.agg (chC zChg).toArray), 513, 520) := by kernel_rfl
set_option maxRecDepth 100000 in
theorem infoPage : (Tryz.prog.info? 50).map (·.size) = some 512 := by kernel_rfl
set_option maxRecDepth 100000 in
theorem infoChange : (Tryz.prog.info? 101).map (·.size) = some 513 := by kernel_rfl
set_option maxRecDepth 100000 in
theorem infoI64 : (Tryz.prog.info? 3).map (fun i => (i.zero, i.size, i.bytes)) = some (some (.int .i64 0), 1, 8) := by kernel_rfl
set_option maxRecDepth 100000 in
theorem fold_set_at : ∀ (l : List Value) (o k : Nat) (acc : Array Value), o + k + l.length ≤ acc.size → ((l.zipIdx k).foldl (fun cs (x : Value × Nat) => cs.setIfInBounds (o + x.2) x.1) acc) = (acc.toList.take (o + k) ++ (l ++ acc.toList.drop (o + k + l.length))).toArray
 | [], o, k, acc, _ => by simp
 | x :: l, o, k, acc, h => by
   simp only [List.length_cons] at h
   rw [List.zipIdx_cons, List.foldl_cons, fold_set_at l o (k + 1) _ (by simp; omega)]
   simp only [Array.toList_setIfInBounds]
   have h1 : o + k < acc.toList.length := by simp; omega
   have e0 : o + (k + 1) = o + k + 1 := by omega
   rw [e0]
   have e1 : (acc.toList.set (o + k) x).take (o + k + 1) = acc.toList.take (o + k) ++ [x] := by
    rw [List.take_set, List.take_succ_eq_append_getElem h1]
    have h4 : (acc.toList.take (o + k)).length = o + k := by rw [List.length_take]; omega
    rw [List.set_append_right _ _ (by omega), h4, Nat.sub_self]
    rfl
   have e2 : (acc.toList.set (o + k) x).drop (o + k + 1 + l.length) = acc.toList.drop (o + k + (l.length + 1)) := by
    rw [List.drop_set_of_lt (by omega)]
    congr 1
    omega
   rw [e1, e2]
   simp
set_option maxRecDepth 100000 in
theorem fill_cons {place : Nat → Option (Nat × Nat)} {cells : Array Value} {i off size : Nat} {v : Value} {rest : List (Nat × Value)} (h : place i = some (off, size)) (h1 : v.cells.size = size) (h2 : off + size ≤ cells.size) :
 Instr.fill place cells ((i, v) :: rest) = Instr.fill place (v.cells.zipIdx.foldl (fun cs (x : Value × Nat) => cs.setIfInBounds (off + x.2) x.1) cells) rest := by
 conv => lhs; unfold Instr.fill
 rw [h]
 simp only [h1]
 rw [if_neg (by simp; omega)]
set_option maxRecDepth 100000 in
theorem fill_head {n : Int} {ds base : List Value} {place : Nat → Option (Nat × Nat)} (h0 : place 0 = some (0, 1)) (h1 : place 1 = some (1, 512)) (hd : ds.length = 512) (hb : base.length = 513) : Instr.fill place base.toArray [(0, .int .i64 n), (1, .agg ds.toArray)] = some (.int .i64 n :: ds).toArray := by
 have h2 := fold_set_at ds 1 0 (.int .i64 n :: base.drop 1).toArray (by simp; omega)
 rw [fill_cons h0 rfl (by simp; omega)]
 have e2 : (Array.foldl (fun cs (x : Value × Nat) => cs.setIfInBounds (0 + x.2) x.1) base.toArray (Value.int .i64 n).cells.zipIdx) = (.int .i64 n :: base.drop 1).toArray := by
  cases base with
  | nil => simp at hb
  | cons b bs => simp [Value.cells]
 rw [e2, fill_cons h1 (by simpa [Value.cells] using hd) (by simp; omega)]
 have e4 : (Value.agg ds.toArray).cells = ds.toArray := rfl
 rw [e4, ← Array.foldl_toList, Array.toList_zipIdx, List.toList_toArray, h2]
 have e3 : (Value.int .i64 n :: base.drop 1).drop (1 + 0 + ds.length) = [] := List.drop_eq_nil_of_le (by simp; omega)
 simp only [List.toList_toArray, e3, List.append_nil]
 rfl
set_option maxRecDepth 100000 in
theorem fill_chg (x : Chg) (hp : x.p.length = 512) : Instr.fill (fun i => ([(0, 1), (1, 512)] : List (Nat × Nat))[i]?) (Value.agg (chC zChg).toArray).cells [(0, .int .i64 x.n), (1, av x.p)] = some (chC x).toArray :=
 fill_head rfl rfl (by rw [cellsB_len, hp]) (by simp [cellsB_len, nought_len])
set_option maxRecDepth 100000 in
theorem build_chg (x : Chg) (hp : x.p.length = 512) (w : World) : (Instr.build 101 #[(0, .int .i64 x.n), (1, av x.p)]).run Tryz.prog w = .ok (.agg (chC x).toArray) w := by
 unfold Instr.build
 obtain ⟨i0, hi, hz0, hz1, hz2⟩ := info_parts infoPg
 obtain ⟨i1, hj, hj0, hj1, hj2⟩ := info_parts infoI64
 have hf := fill_chg x hp
 rw [Sem.run_bind, zeroChg]
 simp [run_underlying Tryz.underlying101, sizeOf, typeInfo, hi, hj, hj1, hz1]
 rw [hf]
 rfl

def RecAt (w : World) (b off : Nat) (r : List Chg) : Prop := ∀ i x, r[i]? = some x → x.p.length = 512 ∧ w.rangeAt b (off + i * 513) (chC x)
set_option maxRecDepth 100000 in
theorem RecAt.keep {F : Nat → Prop} {w w' : World} {b off : Nat} {r : List Chg} (h : RecAt w b off r) (hf : Fr F w w') (hF : ¬ F b) : RecAt w' b off r := fun i s hi => ⟨(h i s hi).1, fun j v hv => by
 have h1 := (h i s hi).2 j v hv
 exact (hf.cell (World.block_lt_of_cell? w _ h1) hF).trans h1⟩
def RcV (w : World) (v : Value) (r : List Chg) : Prop :=
 ∃ A cap, v = .slice A r.length cap ∧ r.length ≤ cap ∧ cap ≤ maxLen ∧ (0 < r.length → ∃ b off, A = some ⟨b, off, none⟩ ∧ RecAt w b off r)
set_option maxRecDepth 100000 in
theorem RcV.keep {F : Nat → Prop} {w w' : World} {v : Value} {r : List Chg} (h : RcV w v r) (f : Fr F w w') (hF : ∀ b, v.ownBlock = some b → ¬ F b) : RcV w' v r := by
 obtain ⟨A, cap, rfl, h1, h2, h3⟩ := h
 refine ⟨A, cap, rfl, h1, h2, fun q => ?_⟩
 obtain ⟨b, off, rfl, h⟩ := h3 q
 exact ⟨b, off, rfl, h.keep f (hF b rfl)⟩
set_option maxRecDepth 100000 in
theorem RcV.new {w w' : World} {v : Value} {r : List Chg} (h : RcV w v r) (f : Fr (fun _ => False) w w') : RcV w' v r := h.keep f (fun _ _ q => q)
set_option maxRecDepth 100000 in
theorem RcV.nil (w : World) : RcV w (.slice none 0 0) [] := ⟨none, 0, rfl, Nat.le_refl _, Nat.zero_le _, fun h => absurd h (by simp)⟩
def recC (r : List Chg) : List Value := (r.map chC).flatten
set_option maxRecDepth 100000 in
theorem recC_len {r : List Chg} (h : ∀ x ∈ r, x.p.length = 512) : (recC r).length = r.length * 513 := by
 unfold recC
 induction r with
 | nil => rfl
 | cons x r ih =>
   rw [List.map_cons, List.flatten_cons, List.length_append, chC_len (h x (by simp)), ih (fun y hy => h y (by simp [hy])), List.length_cons]
   omega
set_option maxRecDepth 100000 in
theorem make_changes (W : World) (N : Nat) (hN : N ≤ 1000000) : ∃ cs, (Instr.makeSlice 77 (.int .i64 (N : Nat)) (.int .i64 (N : Nat))).run Tryz.prog W = .ok (.slice (some ⟨W.heap.size, 0, none⟩) N N) (W.alloc (.cells cs 101)) ∧ cs.size = N * 513 := by
 obtain ⟨i0, hi, hz0, hz1, hz2⟩ := info_parts infoChg
 have h := run_make (P := Tryz.prog) W 77 101 i0 (.agg (chC zChg).toArray) Tryz.underlying77 hi hz0 .i64 .i64 N N (by omega) (by omega) (by rw [hz2]; omega) (by omega)
 rw [hz1, Int.toNat_natCast] at h
 exact ⟨_, h, by simp [madeCells]⟩
set_option maxRecDepth 100000 in
theorem Blk.range_set {w : World} {b : Nat} {t : TypeId} {cs : Array Value} (h : Blk w b t cs) {vs : List Value} {o : Nat} (hn : o + vs.length ≤ cs.size) : ∃ cs', Blk (w.setCells b o vs) b t cs' ∧ cs'.size = cs.size ∧ (∀ j v, vs[j]? = some v → cs'[o + j]? = some v) ∧ ∀ i, i < o ∨ o + vs.length ≤ i → cs'[i]? = cs[i]? := by
 induction vs generalizing w o cs with
 | nil => exact ⟨cs, h, rfl, fun j v hv => by simp at hv, fun i _ => rfl⟩
 | cons u us ih =>
   have h1 := h.set_ o u
   simp only [List.length_cons] at hn
   obtain ⟨cs', q1, q2, q3, q4⟩ := ih h1 (o := o + 1) (by simp; omega)
   refine ⟨cs', q1, by rw [q2]; simp, fun j v hv => ?_, fun i hi => ?_⟩
   · cases j with
     | zero =>
       simp at hv
       subst hv
       rw [Nat.add_zero, q4 o (.inl (by omega)), Array.getElem?_setIfInBounds, if_pos rfl, if_pos (by omega)]
     | succ j =>
       simp at hv
       have := q3 j v hv
       rwa [show o + 1 + j = o + (j + 1) by omega] at this
   · simp only [List.length_cons] at hi
     rw [q4 i (by omega)]
     rw [Array.getElem?_setIfInBounds]
     rw [if_neg (by omega)]
end Go.Proofs.YtcnlgbjkjlbmbaaGreat

namespace Go.Proofs.YtcnlgbjkjlbmbaaGreat
open Go.RowKit

def chgOf (b : List UInt8) (k : Nat) : Chg := ⟨(numOf ((b.drop (516 * k)).take 4) : Nat), ((b.drop (516 * k)).drop 4).take 512⟩
def recOf (b : List UInt8) : Option (List Chg) :=
 if b.length % 516 = 0 ∧ 1 ≤ b.length / 516 ∧ b.length / 516 ≤ 60 ∧ ∀ k, k < b.length / 516 → numOf ((b.drop (516 * k)).take 4) ≤ 2147483647 then some ((List.range (b.length / 516)).map (chgOf b)) else none
set_option maxRecDepth 100000 in
theorem recOf_none {b : List UInt8} {k : Nat} (hk : k < b.length / 516) (h : ¬ numOf ((b.drop (516 * k)).take 4) ≤ 2147483647) : recOf b = none := by
 unfold recOf
 rw [if_neg]
 rintro ⟨_, _, _, q⟩
 exact h (q k hk)
set_option maxRecDepth 100000 in
theorem plain_addr {w : World} {a : Addr} {v : Value} (h : w.cell? a = some v) : a = ⟨a.block, a.off, none⟩ := by
 unfold World.cell? at h
 split at h
 · cases hsp : a.spot with
   | none => cases a; simp_all
   | some q => rw [hsp] at h; simp at h
 · cases h
set_option maxRecDepth 100000 in
theorem rd_plain {w : World} {A : Option Addr} {n : Nat} {l : List UInt8} (h : Rd w A n l) (hn : 0 < n) : ∃ b o, A = some ⟨b, o, none⟩ ∧ w.rangeAt b o (cellsB l) := by
 obtain ⟨ad, rfl, hc⟩ := h.cellsB hn
 have hl := h.len
 obtain ⟨u, hu⟩ : ∃ u, (cellsB l)[0]? = some u := ⟨_, List.getElem?_eq_getElem (by rw [cellsB_len]; omega)⟩
 have h0 := hc 0 u hu
 have h1 : ad.add 0 = ad := by simp [Addr.add]
 rw [h1] at h0
 have h2 := plain_addr h0
 refine ⟨ad.block, ad.off, congrArg some h2, fun j v hv => ?_⟩
 have := hc j v hv
 rw [h2, Addr.add_mid] at this
 exact this
set_option maxRecDepth 100000 in
theorem at_page (A : Option Addr) (w : World) : (Instr.arrayAt 50 (.slice A 512 512)).run Tryz.prog w = .ok (.pointer A) w := by
 simp [Instr.arrayAt, run_underlying Tryz.underlying50]
section
variable {ops : Array Oper} {o : Oper} {a : Act} {Q : Exit → Act → World → Prop}
set_option maxRecDepth 100000 in
theorem wpList_build_chg {rest : List Oper} {w : World} (hg : o.guard = none) (x y : Operand) (hop : o.op = .build 101 #[(0, x), (1, y)]) {c : Chg} (hl : c.p.length = 512) (hx : a.eval x = .int .i64 c.n) (hy : a.eval y = av c.p)
 (hK : wpList Tryz.prog ops Q rest (a.put o.dst (.agg (chC c).toArray)) w) : wpList Tryz.prog ops Q (o :: rest) a w := by
 refine wpList_plain hg fun K hK' => ?_
 have hr := build_chg c hl w
 unfold Oper.wp execOp
 simp only [hop, hx, hy]
 simp [hr, hx, hy, Result.andThen]
 exact hK' _ _ hK
end
def OfR (w : World) (o : Option (List Chg)) (e : Ending) (w' : World) : Prop :=
 (o = none → e = .returned (.tuple #[.slice none 0 0, .int .i64 4])) ∧ (∀ r, o = some r → ∃ v, e = .returned (.tuple #[v, .int .i64 0]) ∧ RcV w' v r ∧ ∀ b, v.ownBlock = some b → w.heap.size ≤ b ∧ ∃ cs, Blk w' b 101 cs) ∧ Fr (fun _ => False) w w'
set_option maxRecDepth 100000 in
theorem of_bad {w : World} {A : Option Addr} {n c : Nat} {b : List UInt8} (hr : Rd w A n b) (hn : n ≤ 4611686018427387904) (hb : ¬ (n % 516 = 0 ∧ 1 ≤ n / 516 ∧ n / 516 ≤ 60)) : Calls Tryz.prog 103 #[.slice A n c] w fun e w' => e = .returned (.tuple #[.slice none 0 0, .int .i64 4]) ∧ w = w' := by
 have e1 : ((n : Int) / 516) = ((n / 516 : Nat) : Int) := by omega
 have e2 : ((n : Int) % 516) = ((n % 516 : Nat) : Int) := by omega
 obtain ⟨m, hm⟩ : ∃ m, m = n / 516 := ⟨_, rfl⟩
 obtain ⟨r, hrr⟩ : ∃ r, r = n % 516 := ⟨_, rfl⟩
 rw [← hm] at e1 hb
 rw [← hrr] at e2 hb
 have HN := Lib.hid (wneed_any w (m : Int))
 by_cases hz : wneedN (m : Int) = 0
 · rw [hz] at HN
   clear hb hr hz hm hrr
   go_enter Tryz.func103, Tryz.ntmps103
   go_wp2_with fail
   refine HN.out.mono ?_
   rintro e w1 ⟨rfl, rfl⟩
   go_wp2_with fail
   refine bodyPost_ret (results_tmp2 rfl _ _ _) rfl ?_
   exact ⟨rfl, rfl⟩
 · have hr0 : ¬ ((r : Nat) = 0) := fun q => by
    apply hz
    unfold wneedN
    rw [if_pos (by omega)]
   have hq : ¬ ((r : Int) = 0) := by omega
   have hz' : ¬ ((wneedN (m : Int) : Nat) : Int) = 0 := by omega
   generalize wneedN (m : Int) = z at *
   have hzb : ((z : Int) == 0) = false := by rw [beq_eq_false_iff_ne]; exact hz'
   have hqb : ((r : Int) != 0) = true := by rw [bne_iff_ne]; exact hq
   clear hb hr hz hr0 hm hrr hz' hq
   go_enter Tryz.func103, Tryz.ntmps103
   go_wp2_with fail
   refine HN.out.mono ?_
   rintro e w1 ⟨rfl, rfl⟩
   go_wp2_with fail
   refine bodyPost_ret (results_tmp2 rfl _ _ _) rfl ?_
   exact ⟨rfl, rfl⟩
set_option maxRecDepth 100000 in
theorem wneed_pos {n : Nat} (h0 : 1 ≤ n) (h1 : n ≤ 60) : 1 ≤ wneedN (n : Int) := by
 unfold wneedN needN many
 rw [if_neg (by omega), if_neg (by omega)]
 omega
set_option maxRecDepth 100000 in
set_option maxHeartbeats 2000000 in
theorem of_ok {w : World} {A : Option Addr} {n c : Nat} {b : List UInt8} (hr : Rd w A n b) (hnc : n ≤ c) {m : Nat} (hm : n = m * 516) (h1 : 1 ≤ m) (h60 : m ≤ 60) (hlt : ∀ ad, A = some ad → ad.block < w.heap.size) : Calls Tryz.prog 103 #[.slice A n c] w (OfR w (recOf b)) := by
 have hrn := hr.len
 have e1 : ((n : Int) / 516) = (m : Int) := by omega
 have e2 : ((n : Int) % 516) = 0 := by omega
 have hz := wneed_pos h1 h60
 have HN := Lib.hid (wneed_any w (m : Int))
 have hz' : ¬ ((wneedN (m : Int) : Nat) : Int) = 0 := by omega
 generalize wneedN (m : Int) = z at *
 have hmr : b.length / 516 = m := by omega
 have hmo : b.length % 516 = 0 := by omega
 obtain ⟨cs, hmk, hcs⟩ := make_changes w m (by omega)
 have HB := Lib.hid (And.intro hr (And.intro hnc (And.intro hm (And.intro h1 (And.intro h60 (And.intro hlt (And.intro hmr (And.intro hmo hrn))))))))
 have HC := Lib.hid hcs
 clear hz hr hnc hrn hmr hmo hlt hcs hm
 go_enter Tryz.func103, Tryz.ntmps103
 go_wp2_with fail
 refine HN.out.mono ?_
 rintro e w1 ⟨rfl, rfl⟩
 clear HN
 go_wp2_with fail
 refine (wtaker_any _ _ _ _).mono ?_
 rintro e w2 ⟨rfl, rfl⟩
 have HX : Hid (∃ X, X = (w.alloc (.cells cs 101)).alloc (.cells #[.slice A n c] 46)) := Lib.hid ⟨_, rfl⟩
 obtain ⟨X, hX, kR, kg, hsz, hfX⟩ := alloc2 w cs #[.slice A n c] 101 46
 have hs1 : (w.alloc (.cells cs 101)).heap.size = w.heap.size + 1 := by simp
 rw [hs1]
 rw [← hX]
 clear hX hs1 HX hmk
 have HK := Lib.hid (And.intro kR (And.intro hsz hfX))
 have HBX := Lib.hid (show BoxR X (w.heap.size + 1) A n c b from ⟨kg, HB.out.1.keep hfX (fun _ _ q => q), HB.out.2.1, (fun e => by
  subst e
  have := HB.out.1.lt (by omega)
  obtain ⟨ad, h, _⟩ := this
  cases h), fun ad e => by have := HB.out.2.2.2.2.2.1 ad e; omega⟩)
 clear kR kg hsz hfX
 go_wp2_with fail
 go_loopw [27] (fun q wr => ∃ k : Nat, q = .int .i64 k ∧ k ≤ m ∧ Hid (∃ A', BoxR wr (w.heap.size + 1) A' (n - 516 * k) (c - 516 * k) (b.drop (516 * k)) ∧ ∀ ad, A' = some ad → ∃ ad0, A = some ad0 ∧ ad.block = ad0.block) ∧
  Hid (∃ cs', Blk wr w.heap.size 101 cs' ∧ cs'.size = m * 513 ∧ ∀ j, j < k → ∀ q u, (chC (chgOf b j))[q]? = some u → cs'[j * 513 + q]? = some u) ∧ Hid (∀ j, j < k → numOf ((b.drop (516 * j)).take 4) ≤ 2147483647) ∧ Hid (Fr (fun _ => False) w wr)) (fun q _ => m - (intOf q).toNat)
 case atStart => exact ⟨0, rfl, Nat.zero_le _, Lib.hid ⟨A, by simpa using HBX.out, fun ad e => ⟨ad, e, rfl⟩⟩, Lib.hid ⟨cs, HK.out.1, HC.out, fun j hj => absurd hj (by omega)⟩, Lib.hid (fun j hj => absurd hj (by omega)), Lib.hid HK.out.2.2⟩
 case round =>
  obtain ⟨k, rfl, hk, HA, HR, HN, HF⟩ := hrel
  clear HBX HK HC
  by_cases hlt : k < m
  · obtain ⟨A1, hb1, hA1⟩ := HA.out
    have hn4 : 516 ≤ n - 516 * k := by have := HB.out.2.2.1; omega
    obtain ⟨N0, p, q0, q1⟩ : ∃ N0 p, numOf ((b.drop (516 * k)).take 4) = N0 ∧ ((b.drop (516 * k)).drop 4).take 512 = p := ⟨_, _, rfl, rfl⟩
    have hpl : p.length = 512 := by rw [← q1]; have := HB.out.2.2.2.2.2.2.2.2; simp; omega
    have HQ := Lib.hid (And.intro q0 (And.intro q1 hpl))
    have HB1 := Lib.hid (And.intro hb1 hA1)
    have hi0 : (0 : Int) ≤ (k : Int) := by omega
    have hi1 : (k : Int) < (m : Int) := by omega
    clear hb1 hA1 q0 q1 hpl HA
    go_wp2_with fail
    refine (wtake_any HB1.out.1 4 (by omega)).mono ?_
    rintro e w2 ⟨rfl, hr2, ⟨A2, hb2, ha2⟩, hf2⟩
    have H2 := Lib.hid (And.intro hb2 (And.intro ha2 (And.intro hf2 hr2)))
    clear hb2 ha2 hf2 hr2
    go_wp2_with fail
    refine (numberOf_is H2.out.2.2.2 (by omega) HQ.out.1).mono ?_
    rintro e w2' ⟨rfl, rfl⟩
    by_cases hN0 : N0 ≤ 2147483647
    · have hN1 : ¬ ((N0 : Int) > 2147483647) := by omega
      have hcv : IntKind.i64.wrap (N0 : Int) = (N0 : Int) := by simp [IntKind.wrap, IntKind.signed, IntKind.bits]; omega
      have HNN := Lib.hid hN0
      go_wp2_with fail
      have hq3 := HQ.out.2.1
      refine (wtake_is H2.out.1 512 (by omega) ⟨hq3, rfl⟩).mono ?_
      rintro e w3 ⟨rfl, hr3, ⟨A3, hb3, ha3⟩, hf3⟩
      obtain ⟨pb, po, rfl, hrg⟩ := rd_plain hr3 (by omega)
      obtain ⟨cs', kR, kcs, kold⟩ := HR.out
      have f23 : Fr (fun q => q = w.heap.size + 1) wr w3 := H2.out.2.2.1.trans hf3 (fun _ _ q => q)
      have kR3 := kR.keep f23 (by omega)
      obtain ⟨x, hx⟩ : ∃ x : Chg, x = ⟨(N0 : Nat), p⟩ := ⟨_, rfl⟩
      have hxl : x.p.length = 512 := by rw [hx]; exact HQ.out.2.2
      have hxk : x = chgOf b k := by rw [hx]; unfold chgOf; rw [HQ.out.1, HQ.out.2.1]
      have hkm : (k + 1) * 513 ≤ m * 513 := Nat.mul_le_mul_right _ (by omega)
      have hth := kR3.there (o := k * 513) (n := (chC x).toArray.size) (by have := chC_len hxl; simp at this ⊢; omega)
      obtain ⟨cs2, j1, j2, j3, j4⟩ := kR3.range_set (vs := chC x) (o := k * 513) (by rw [chC_len hxl]; omega)
      have HXE := Lib.hid hx
      have hat := at_page
      have HS := Lib.hid (And.intro hrg (And.intro hth (And.intro j1 (And.intro j2 (And.intro j3 (And.intro j4 (And.intro hxl hxk)))))))
      have HT := Lib.hid (And.intro hb3 (And.intro ha3 (And.intro f23 (And.intro kold kcs))))
      clear hrg hth j1 j2 j3 j4 hxl hb3 ha3 f23 kold kcs kR3 kR hx hq3 hr3 hf3 HR hkm
      clear hxk
      go_wp2_with (first
       | (refine wpList_load_mid rfl 50 _ rfl pb po rfl (cellsB p) _ HS.out.1 Tryz.underlying50 rfl (by rw [infoPage, cellsB_len, HQ.out.2.2]) ?_)
       | (refine wpList_build_chg rfl (.tmp 38) (.tmp 42) rfl (c := ⟨(N0 : Nat), p⟩) HQ.out.2.2 rfl rfl ?_; rw [← HXE.out])
       | (refine wpList_store_mid rfl 101 _ _ rfl w.heap.size (k * 513) (chC x).toArray rfl rfl HS.out.2.1 (by rw [infoChange]; exact congrArg some (chC_len HS.out.2.2.2.2.2.2.1).symm) (all_oneCell_toArray (chC_one x)) ?_))
      have fB : Fr (fun q => q = w.heap.size) w3 (w3.setCells w.heap.size (k * 513) (chC x)) := Fr.setCells (F := fun q => q = w.heap.size) (.inl rfl) (Fr.refl _ _)
      have fC : Fr (fun _ => False) w (w3.setCells w.heap.size (k * 513) (chC x)) := Fr.setCells (.inr (Nat.le_refl _)) (HF.out.trans HT.out.2.2.1 (fun i hi q => by omega))
      refine ⟨⟨k + 1, by go_num, hlt, Lib.hid ⟨A3, ?_, fun ad e => ?_⟩, Lib.hid ⟨cs2, HS.out.2.2.1, by rw [HS.out.2.2.2.1]; exact HT.out.2.2.2.2, fun j hj q u hu => ?_⟩, Lib.hid (fun j hj => ?_), Lib.hid fC⟩, by simp [intOf]; omega⟩
      · have hbx := HT.out.1.keep fB (by omega) (fun ad e q => by
         obtain ⟨ad1, e1, e2⟩ := HT.out.2.1 ad e
         obtain ⟨ad2, e3, e4⟩ := H2.out.2.1 ad1 e1
         obtain ⟨ad3, e5, e6⟩ := HB1.out.2 ad2 e3
         have := HB.out.2.2.2.2.2.1 ad3 e5
         omega)
        have e1 : n - 516 * k - 4 - 512 = n - 516 * (k + 1) := by omega
        have e2 : c - 516 * k - 4 - 512 = c - 516 * (k + 1) := by omega
        have e3 : ((b.drop (516 * k)).drop 4).drop 512 = b.drop (516 * (k + 1)) := by rw [List.drop_drop, List.drop_drop, show 516 * k + 4 + 512 = 516 * (k + 1) by omega]
        rw [e1, e2, e3] at hbx
        exact hbx
      · obtain ⟨ad1, e1, e2⟩ := HT.out.2.1 ad e
        obtain ⟨ad2, e3, e4⟩ := H2.out.2.1 ad1 e1
        obtain ⟨ad3, e5, e6⟩ := HB1.out.2 ad2 e3
        exact ⟨ad3, e5, by omega⟩
      · by_cases hjk : j = k
        · subst hjk
          rw [← HS.out.2.2.2.2.2.2.2] at hu
          exact HS.out.2.2.2.2.1 q u hu
        · have hql : q < 513 := by
           have h1 := (List.getElem?_eq_some_iff.1 hu).1
           have h2 : (chC (chgOf b j)).length ≤ 513 := by simp [chC, cellsB_len, chgOf]; omega
           omega
          have hjm : (j + 1) * 513 ≤ k * 513 := Nat.mul_le_mul_right _ (by omega)
          rw [HS.out.2.2.2.2.2.1 (j * 513 + q) (.inl (by omega))]
          exact HT.out.2.2.2.1 j (by omega) q u hu
      · by_cases hjk : j = k
        · subst hjk
          rw [HQ.out.1]
          exact HNN.out
        · exact HN.out j (by omega)
    · have hN1 : (N0 : Int) > 2147483647 := by omega
      have hno := recOf_none (b := b) (k := k) (by rw [HB.out.2.2.2.2.2.2.1]; exact hlt) (by rw [HQ.out.1]; exact hN0)
      have HNO := Lib.hid hno
      clear hno hN0
      go_wp2_with fail
      refine bodyPost_ret (results_tmp2 rfl _ _ _) rfl ?_
      rw [HNO.out]
      exact ⟨fun _ => rfl, (fun r hr => by cases hr), HF.out.trans H2.out.2.2.1 (fun i hi q => by omega)⟩
  · obtain rfl : k = m := by omega
    obtain ⟨cs', kR, kcs, kold⟩ := HR.out
    have hsome : recOf b = some ((List.range k).map (chgOf b)) := by
     unfold recOf
     rw [HB.out.2.2.2.2.2.2.1, if_pos ⟨HB.out.2.2.2.2.2.2.2.1, h1, h60, HN.out⟩]
    have HE := Lib.hid (And.intro hsome (And.intro kR (And.intro kcs kold)))
    clear hsome kR kcs kold hlt hk
    go_wp2_with fail
    refine bodyPost_ret (results_tmp2 rfl _ _ _) rfl ?_
    rw [HE.out.1]
    refine ⟨(fun h => by cases h), fun r hr => ?_, HF.out⟩
    injection hr with hr
    subst hr
    refine ⟨.slice (some ⟨w.heap.size, 0, none⟩) k k, rfl, ⟨some ⟨w.heap.size, 0, none⟩, k, by simp, by simp, by simp only [maxLen]; omega, fun _ => ⟨w.heap.size, 0, rfl, fun i x hx => ?_⟩⟩, fun b' hb' => by injection hb' with hb'; subst hb'; exact ⟨Nat.le_refl _, cs', HE.out.2.1⟩⟩
    have hik : i < k := by
     have := (List.getElem?_eq_some_iff.1 hx).1
     simpa using this
    have hxe : x = chgOf b i := by simpa [hik] using hx.symm
    subst hxe
    refine ⟨?_, fun j u hu => ?_⟩
    · have := HB.out.2.2.2.2.2.2.2.2
      have := HB.out.2.2.1
      simp [chgOf]
      omega
    · rw [HE.out.2.1.cell, Nat.zero_add]
      exact HE.out.2.2.2 i hik j u hu
end Go.Proofs.YtcnlgbjkjlbmbaaGreat

namespace Go.Proofs.YtcnlgbjkjlbmbaaGreat
open Go.RowKit

set_option maxRecDepth 100000 in
theorem fr_putObj (w : World) (r : Nat) (o : Obj) : Fr (fun k => k = r) w (w.putObj r o) :=
 ⟨rfl, rfl, rfl, by simp, fun i _ hi => World.putObj_heap_other hi⟩
set_option maxRecDepth 100000 in
theorem range_told {α : Type} {F : Fence} {n : Nat} {P : Program} {g : Operand} {ps : Array Tmp} {assign body : Code} {Q : Exit → Act → World → Prop} {a : Act} {w : World}
 (hro : F.round = none) (h1 : 1 ≤ n) {gf : Nat} {lb : Array Value} (hg : a.eval g = .func (.func gf) #[] lb) (hFg : F.fn gf) (eg : ∀ args w, (callFunc gf args).run P w = .ok (.enter gf args) w)
 {encs : α → Array Value} (hps : ∀ x, (encs x).size = ps.size) (I : List α → World → Prop) (E : List α → α → World → Prop) (S : List α → Prop) (G : Nat → Prop) (hGD : ¬ G w.heap.size) (hGL : ¬ G (w.heap.size + 1)) (act : α → Act)
 (hI : ∀ s A B, I s A → Fr (fun k => k = w.heap.size + 1) A B → I s B) (hE : ∀ pre x A B, E pre x A → Fr (fun k => k = w.heap.size + 1) A B → E pre x B) (h0 : I [] w)
 (hseq : ∀ (J : List α → World → Prop) (W : World), Fr (fun _ => False) w W → w.heap.size + 2 ≤ W.heap.size → (∀ s A B, J s A → Fr (fun _ => False) A B → J s B) →
   (∀ pre x W1, J pre W1 → E pre x W1 → YieldAt F (n - 1 - 1) P (w.heap.size + 1) (encs x) W1 fun e W' => e = .returned (.bool true) ∧ J (pre ++ [x]) W' ∧ Fr (fun k => G k ∨ k = w.heap.size + 1) W1 W') → J [] W →
   CallsIn F (n - 1) P gf (#[.func (.yield (w.heap.size + 1)) #[] #[]] ++ lb) W fun e W' => (∃ v, e = .returned v) ∧ ∃ xs, S xs ∧ J xs W')
 (hassign : ∀ x W K, (K : Act → World → Prop) (act x) W → assign.wpIn (F.inRound (w.heap.size + 1)) (n - 1 - 1) P (Exit.then K (fun _ _ _ => False)) { tmps := (ps.zip (encs x)).foldl (fun t (p, v) => t.setIfInBounds p v) a.tmps, defers := [] } W)
 (hbody : ∀ pre x W, I pre W → E pre x W → w.heap.size + 1 < W.heap.size → body.wpIn (F.inRound (w.heap.size + 1)) (n - 1 - 1) P (fun e _ W' => e = .normal ∧ Fr G W W' ∧ I (pre ++ [x]) W') (act x) W)
 (hdone : ∀ xs W, S xs → I xs W → w.heap.size + 1 < W.heap.size → W.heap[w.heap.size]? = some (.deferred (some [])) → Q .normal { a with defers := { target := .collected w.heap.size, args := #[] } :: a.defers } W) :
 (Code.rangeFunc g ps assign body).wpIn F n P Q a w := by
 refine wpIn_rangeFunc fun fn hfn => ?_
 rw [hro]
 obtain ⟨rec, hrec⟩ : ∃ rec : LoopState → Option Code → Loop, rec = fun st pe => { state := st, pending := pe, fn, tmps := a.tmps, params := ps, assign, body, defers := w.heap.size } := ⟨_, rfl⟩
 obtain ⟨X, hX⟩ : ∃ X, X = (w.alloc (.deferred (some []))).alloc (.loop (rec .ready none)) := ⟨_, rfl⟩
 have hfX : Fr (fun _ => False) w X := hX ▸ ((Fr.refl _ w).alloc _).alloc _
 have hDX : X.heap[w.heap.size]? = some (.deferred (some [])) := by
  rw [hX]
  have h := World.alloc_heap_new w (.deferred (some []))
  have f := (Fr.refl (fun _ => False) (w.alloc (.deferred (some [])))).alloc (.loop (rec .ready none))
  exact (f.block w.heap.size (by simp) (fun q => q)).trans h
 have hLX : X.heap[w.heap.size + 1]? = some (.loop (rec .ready none)) := by
  rw [hX]
  have h := World.alloc_heap_new (w.alloc (.deferred (some []))) (.loop (rec .ready none))
  simpa using h
 have hno : ∀ {s A B}, I s A → Fr (fun _ => False) A B → I s B := fun h f => hI _ _ _ h (f.mono (fun _ _ q => q.elim))
 obtain ⟨J, hJ⟩ : ∃ J : List α → World → Prop, J = fun s W => I s W ∧ W.heap[w.heap.size]? = some (.deferred (some [])) ∧ W.heap[w.heap.size + 1]? = some (.loop (rec .ready none)) := ⟨_, rfl⟩
 have hlt : ∀ {W : World} {k : Nat} {o : Obj}, W.heap[k]? = some o → k < W.heap.size := fun h => (Array.getElem?_eq_some_iff.1 h).1
 have hseq' := hseq J X hfX (by rw [hX]; simp) (fun s A B hs f => by
  rw [hJ] at hs ⊢
  exact ⟨hno hs.1 f, (f.block _ (hlt hs.2.1) (fun q => q)).trans hs.2.1, (f.block _ (hlt hs.2.2) (fun q => q)).trans hs.2.2⟩) ?_ (by rw [hJ]; exact ⟨hno h0 hfX, hDX, hLX⟩)
 · refine ⟨w.heap.size + 1, [{ target := .collected w.heap.size, args := #[] }], X, { target := .fn (.func gf) lb, args := #[.func (.yield (w.heap.size + 1)) #[] #[]] }, X, gf, #[.func (.yield (w.heap.size + 1)) #[] #[]] ++ lb, X, ?_, ?_, ?_, ?_, fun _ => h1, ?_⟩
   · rw [hX, hrec]
     exact run_enterLoop_outer _ _ _ _ _
   · simp only [resolve, hg]
     simp [go_sem]
   · intro f' hf'
     simp [Target.leads] at hf'
     exact hf' ▸ hFg
   · simp [invoke, go_sem, eg]
   · refine hseq'.mono ?_
     rintro e W2 ⟨⟨v, rfl⟩, xs, hS, hj⟩
     rw [hJ] at hj
     obtain ⟨hi, hd, hl⟩ := hj
     have hend := run_endLoop (P := P) hl (by rw [hrec]; simp)
     refine ⟨none, _, by rw [hrec] at hend; exact hend, ?_⟩
     exact hdone xs _ hS (hI _ _ _ hi (fr_putObj _ _ _)) (by simpa using hlt hl) ((World.putObj_heap_other (by omega)).trans hd)
 · intro pre x W1 hj he
   rw [hJ] at hj
   obtain ⟨hi, hd, hl⟩ := hj
   have hy := run_yield (P := P) (args := encs x) hl (by rw [hrec]; exact hps x)
   rw [hrec] at hy
   refine ⟨fn, _, assign, body, hy, roundIn_of_wpIn hfn (hassign x W1 _ ?_)⟩
   have hbr := run_beginRound (P := P) hl (by rw [hrec])
   refine ⟨_, hbr, ?_⟩
   have f1 := fr_putObj W1 (w.heap.size + 1) (.loop { rec .ready none with state := .busy })
   have hl1 : (W1.putObj (w.heap.size + 1) (.loop { rec .ready none with state := .busy })).heap[w.heap.size + 1]? = some (.loop { rec .ready none with state := .busy }) := World.putObj_heap_same (hlt hl)
   have hd1 : (W1.putObj (w.heap.size + 1) (.loop { rec .ready none with state := .busy })).heap[w.heap.size]? = some (.deferred (some [])) := (World.putObj_heap_other (by omega)).trans hd
   refine wpIn_mono (hbody pre x _ (hI _ _ _ hi f1) (hE _ _ _ _ he f1) (hlt hl1)) ?_
   rintro e a3 W3 ⟨rfl, f3, hi3⟩
   have hl3 := (f3.block _ (hlt hl1) hGL).trans hl1
   have hd3 := (f3.block _ (hlt hd1) hGD).trans hd1
   have her := run_endRound (P := P) none hl3
   refine ⟨_, _, her, rfl, ?_, ?_⟩
   · rw [hJ]
     refine ⟨hI _ _ _ hi3 (fr_putObj _ _ _), (World.putObj_heap_other (by omega)).trans hd3, ?_⟩
     rw [World.putObj_heap_same (hlt hl3), hrec]
     rfl
   · exact ((f1.mono (fun _ _ q => .inr q)).trans f3 (fun _ _ q => .inl q)).trans (fr_putObj _ _ _) (fun _ _ q => .inr q)
set_option maxRecDepth 100000 in
theorem range_told_f {α : Type} {F : Fence} {n : Nat} {P : Program} {g : Operand} {ps : Array Tmp} {assign body : Code} {Q : Exit → Act → World → Prop} {T : Array Value} {ds : List Deferred} {w : World}
 (hro : F.round = none) (h1 : 1 ≤ n) {gf : Nat} {lb : Array Value} (hg : Act.eval { tmps := T, defers := ds } g = .func (.func gf) #[] lb) (hFg : F.fn gf) (eg : ∀ args w, (callFunc gf args).run P w = .ok (.enter gf args) w)
 {encs : α → Array Value} (hps : ∀ x, (encs x).size = ps.size) (I : List α → World → Prop) (E : List α → α → World → Prop) (S : List α → Prop) (G : Nat → Prop) (hGD : ¬ G w.heap.size) (hGL : ¬ G (w.heap.size + 1)) (f : α → Array Value → Array Value)
 (hI : ∀ s A B, I s A → Fr (fun k => k = w.heap.size + 1) A B → I s B) (hE : ∀ pre x A B, E pre x A → Fr (fun k => k = w.heap.size + 1) A B → E pre x B) (h0 : I [] w)
 (hseq : ∀ (J : List α → World → Prop) (W : World), Fr (fun _ => False) w W → w.heap.size + 2 ≤ W.heap.size → (∀ s A B, J s A → Fr (fun _ => False) A B → J s B) →
   (∀ pre x W1, J pre W1 → E pre x W1 → YieldAt F (n - 1 - 1) P (w.heap.size + 1) (encs x) W1 fun e W' => e = .returned (.bool true) ∧ J (pre ++ [x]) W' ∧ Fr (fun k => G k ∨ k = w.heap.size + 1) W1 W') → J [] W →
   CallsIn F (n - 1) P gf (#[.func (.yield (w.heap.size + 1)) #[] #[]] ++ lb) W fun e W' => (∃ v, e = .returned v) ∧ ∃ xs, S xs ∧ J xs W')
 (hassign : ∀ x W K, (K : Act → World → Prop) { tmps := f x T, defers := [] } W → assign.wpIn (F.inRound (w.heap.size + 1)) (n - 1 - 1) P (Exit.then K (fun _ _ _ => False)) { tmps := (ps.zip (encs x)).foldl (fun t (p, v) => t.setIfInBounds p v) T, defers := [] } W)
 (hbody : ∀ pre x W, I pre W → E pre x W → w.heap.size + 1 < W.heap.size → body.wpIn (F.inRound (w.heap.size + 1)) (n - 1 - 1) P (fun e _ W' => e = .normal ∧ Fr G W W' ∧ I (pre ++ [x]) W') { tmps := f x T, defers := [] } W)
 (hdone : ∀ xs W, S xs → I xs W → w.heap.size + 1 < W.heap.size → W.heap[w.heap.size]? = some (.deferred (some [])) → Q .normal { tmps := T, defers := { target := .collected w.heap.size, args := #[] } :: ds } W) :
 (Code.rangeFunc g ps assign body).wpIn F n P Q { tmps := T, defers := ds } w :=
 range_told hro h1 hg hFg eg hps I E S G hGD hGL (fun x => { tmps := f x T, defers := [] }) hI hE h0 hseq hassign hbody hdone
end Go.Proofs.YtcnlgbjkjlbmbaaGreat

namespace Go.Proofs.YtcnlgbjkjlbmbaaGreat
open Go.RowKit
attribute [local go_sem] Oper.semAt_some

set_option maxRecDepth 100000 in
theorem of_any {w : World} {A : Option Addr} {n c : Nat} {b : List UInt8} (hr : Rd w A n b) (hnc : n ≤ c) (hn : n ≤ 4611686018427387904) : Calls Tryz.prog 103 #[.slice A n c] w (OfR w (recOf b)) := by
 have hl := hr.len
 by_cases h : n % 516 = 0 ∧ 1 ≤ n / 516 ∧ n / 516 ≤ 60
 · refine of_ok hr hnc (m := n / 516) (by omega) h.2.1 h.2.2 fun ad e => ?_
   obtain ⟨ad', e', hb⟩ := hr.lt (by omega)
   rw [e] at e'
   injection e' with e'
   subst e'
   exact hb
 · refine (of_bad hr hn h).mono ?_
   rintro e w' ⟨rfl, rfl⟩
   have hno : recOf b = none := by
    unfold recOf
    rw [if_neg]
    rintro ⟨q0, q1, q2, _⟩
    rw [hl] at q0 q1 q2
    exact h ⟨q0, q1, q2⟩
   rw [hno]
   exact ⟨fun _ => rfl, (fun r h => by cases h), Fr.refl _ _⟩
set_option maxRecDepth 100000 in
theorem secV_in {w : World} {v : Value} {ss : List (List UInt8)} (h : SecV w v ss) : SecIn w v ss := by
 obtain ⟨A, cap, rfl, h1, h2, h3⟩ := h
 cases ss with
 | nil => exact .inl ⟨rfl, A, cap, rfl⟩
 | cons s ss =>
   obtain ⟨b, off, rfl, hs⟩ := h3 (by simp)
   exact .inr ⟨b, off, cap, rfl, by simp, hs⟩
set_option maxRecDepth 100000 in
theorem sizeSecW (W : World) : (sizeOf (Tryz.prog.elem 71)).run Tryz.prog W = .ok 128 W := by
 obtain ⟨i0, hi, hz0, hz1, hz2⟩ := info_parts infoSec
 have e : Tryz.prog.elem 71 = 83 := by kernel_rfl
 rw [e]
 simp [sizeOf, typeInfo, hi, hz1]
set_option maxRecDepth 100000 in
theorem secsAt_drop {w : World} {b off : Nat} {ss : List (List UInt8)} (h : SecsAt w b off ss) (n : Nat) : SecsAt w b (off + n * 128) (ss.drop n) := fun i s hi => by
 rw [List.getElem?_drop] at hi
 have := h (n + i) s hi
 have e : off + (n + i) * 128 = off + n * 128 + i * 128 := by omega
 rwa [e] at this
set_option maxRecDepth 100000 in
theorem slice_secV {w : World} {A : Option Addr} {n0 cap : Nat} {ss : List (List UInt8)} (h : SecV w (.slice A n0 cap) ss) (n : Nat) (hn : n ≤ ss.length) :
 ∃ A', (∀ W, (Instr.slice 71 (.slice A n0 cap) (some (.int .i64 (n : Int))) none none).run Tryz.prog W = .ok (.slice A' (n0 - n) (cap - n)) W) ∧ SecV w (.slice A' (n0 - n) (cap - n)) (ss.drop n) ∧ ∀ b, (Value.slice A' (n0 - n) (cap - n)).ownBlock = some b → (Value.slice A n0 cap).ownBlock = some b := by
 obtain ⟨A1, cap1, e, h1, h2, h3⟩ := h
 injection e with e1 e0 e2
 subst e1 e2 e0
 refine ⟨if cap = n then A else A.map fun x => x.add (n * 128), fun W => ?_, ?_, fun b hb => ?_⟩
 · rw [run_slice_l W 71 A ss.length cap (by kernel_rfl) .i64 n (by omega) (by omega), sizeSecW]
   simp [Result.andThen, sliced]
 · refine ⟨_, cap - n, by rw [List.length_drop], by rw [List.length_drop]; omega, by omega, fun q => ?_⟩
   rw [List.length_drop] at q
   obtain ⟨b, off, rfl, hs⟩ := h3 (by omega)
   rw [if_neg (by omega)]
   exact ⟨b, off + n * 128, by simp [Addr.add], secsAt_drop hs n⟩
 · cases A with
   | none => split at hb <;> cases hb
   | some ad =>
     split at hb
     · exact hb
     · injection hb with hb
       rw [add_block] at hb
       exact congrArg some hb
set_option maxRecDepth 100000 in
theorem join_long {ss : List (List UInt8)} (hs : ∀ s ∈ ss, s.length = 128) {b : List UInt8} (h : joinOf ss = some b) : b.length ≤ 32768 ∧ 1 ≤ needN (b.length : Nat) ∧ needN (b.length : Nat) ≤ ss.length := by
 unfold joinOf at h
 cases ht : togAll ss with
 | none => rw [ht] at h; cases h
 | some l =>
   rw [ht] at h
   have hl : l.length % 48 = 0 ∧ l.length ≤ ss.length * 96 := by
    unfold togAll at ht
    split at ht
    · cases ht
    · split at ht
      · exact togOf_len hs ht
      · cases ht
   have h2 : conOf l = some b := h
   unfold conOf at h2
   simp only at h2
   split at h2
   · cases h2
   · rename_i hc
     split at h2
     · injection h2 with h2
       have hk : numOf (l.take 4) ≤ 32768 ∧ many (numOf (l.take 4)) * 48 = l.length := by
        refine ⟨Nat.le_of_not_lt fun q => hc (.inr (.inl q)), ?_⟩
        exact Classical.byContradiction fun q => hc (.inr (.inr q))
       have hbl : b.length = numOf (l.take 4) := by
        rw [← h2, List.length_take, List.length_drop]
        unfold many at hk
        omega
       rw [hbl]
       unfold needN
       have hm : 1 ≤ many (numOf (l.take 4)) := by unfold many; omega
       rw [if_neg (by omega)]
       simp only [Int.toNat_natCast]
       omega
     · cases h2

def recsFrom (c s : Nat) : Nat → Nat → List (List UInt8) → List (List Chg × Nat)
 | 0, _, _ => []
 | f + 1, n, ss =>
   match joinOf ss with
   | none => []
   | some b => if (tagAt ss).2 = n ∧ s ≤ (tagAt ss).1 ∧ (tagAt ss).1 ≤ c then
      match recOf b with
      | none => []
      | some r => (r, needN (b.length : Nat)) :: recsFrom c s f (n + 1) (ss.drop (needN (b.length : Nat)))
     else []
def recs (c s : Nat) (ss : List (List UInt8)) : List (List Chg × Nat) := recsFrom c s (ss.length + 1) 0 ss
structure Rcd where
 v : Value
 r : List Chg
 k : Nat
abbrev encR (x : Rcd) : Array Value := #[x.v, .int .i64 (x.k : Nat)]
def Rcd.Is (B : Nat) (x : Rcd) (W : World) : Prop := RcV W x.v x.r ∧ ∀ b, x.v.ownBlock = some b → B ≤ b ∧ ∃ cs, Blk W b 101 cs
set_option maxRecDepth 100000 in
theorem Rcd.Is.keep {B : Nat} {x : Rcd} {F : Nat → Prop} {A W : World} (h : x.Is B A) (f : Fr F A W) (hF : ∀ b, x.v.ownBlock = some b → ¬ F b) : x.Is B W :=
 ⟨h.1.keep f hF, fun b hb => ⟨(h.2 b hb).1, (h.2 b hb).2.choose, (h.2 b hb).2.choose_spec.keep f (hF b hb)⟩⟩
set_option maxRecDepth 100000 in
theorem records_any (w : World) (c s : Nat) (A : Option Addr) (n cap : Nat) : Calls Tryz.prog 74 #[hV c s, .slice A n cap] w fun e w' =>
 e = .returned (.func (.func 101) #[] #[.pointer (some ⟨w.heap.size + 1, 0, none⟩), .pointer (some ⟨w.heap.size, 0, none⟩)]) ∧ w' = (w.alloc (.cells #[.int .u64 (c : Nat), .int .u64 (s : Nat)] 114)).alloc (.cells #[.slice A n cap] 71) := by
 go_enter Tryz.func74, Tryz.ntmps74
 go_wp2_with fail
 go_ret
 exact ⟨by simp, rfl⟩
end Go.Proofs.YtcnlgbjkjlbmbaaGreat

namespace Go.Proofs.YtcnlgbjkjlbmbaaGreat
open Go.RowKit
attribute [local go_sem] Oper.semAt_some

def slLen : Value → Nat
 | .slice _ n _ => n
 | _ => 0
set_option maxRecDepth 100000 in
set_option maxHeartbeats 4000000 in
theorem records1_in (G : Nat → Prop) (L Bl Bh c s B0 : Nat) {ss : List (List UInt8)} {W : World} {v : Value} (hb : ∀ b, v.ownBlock = some b → ¬ (G b ∨ b = L)) (hBl : ¬ (G Bl ∨ Bl = L)) (hBh : ¬ (G Bh ∨ Bh = L))
 (hcl : W.cell? ⟨Bl, 0, none⟩ = some v) (hc0 : W.cell? ⟨Bh, 0, none⟩ = some (.int .u64 (c : Nat))) (hc1 : W.cell? ⟨Bh, 1, none⟩ = some (.int .u64 (s : Nat))) (hsec : SecV W v ss) (hlen : ss.length ≤ 8192) (hB0 : B0 ≤ W.heap.size) (J : List Rcd → World → Prop)
 (hJ : ∀ s A B, J s A → Fr (fun _ => False) A B → J s B)
 (hY : ∀ pre x W1, J pre W1 → (x.Is B0 W1 ∧ pre.length ≤ 8192 ∧ (pre.map (·.k)).sum + x.k ≤ 8192) → YieldAt Fence.wide 8 Tryz.prog L (encR x) W1 fun e W' => e = .returned (.bool true) ∧ J (pre ++ [x]) W' ∧ Fr (fun k => G k ∨ k = L) W1 W') (h0 : J [] W) :
 CallsIn Fence.wide 9 Tryz.prog 101 #[.func (.yield L) #[] #[], .pointer (some ⟨Bl, 0, none⟩), .pointer (some ⟨Bh, 0, none⟩)] W fun e W' => (∃ v, e = .returned v) ∧ ∃ xs : List Rcd, xs.map (fun x => (x.r, x.k)) = recs c s ss ∧ J xs W' := by
 obtain ⟨rr, hrr⟩ : ∃ rr, rr = recs c s ss := ⟨_, rfl⟩
 rw [← hrr]
 have HC := Lib.hid (And.intro hb (And.intro hBl (And.intro hBh (And.intro hc0 (And.intro hc1 (And.intro hsec (And.intro hB0 hrr)))))))
 clear hb hBl hBh hc0 hc1 hsec hB0 hrr
 have hvs : ∃ A n cap, v = .slice A n cap := by
  obtain ⟨A, cap, e, _⟩ := HC.out.2.2.2.2.2.1
  exact ⟨A, _, cap, e⟩
 obtain ⟨A0, n0, cap0, rfl⟩ := hvs
 refine callsIn_of_wp Tryz.func101 rfl trivial ?_ rfl
 simp only [Tryz.ntmps101, List.size_toArray, List.length_cons, List.length_nil, Nat.reduceAdd, Nat.reduceSub, Array.replicate_succ, Array.replicate_zero, List.push_toArray, List.append_toArray, List.nil_append, List.cons_append]
 gi_wp2
 gi_loopw [4, 5] (fun t q wr => ∃ (k : Nat) (pre : List Rcd) (rest : List (List UInt8)) (f : Nat) (A : Option Addr) (n cap : Nat), q = .int .i64 k ∧ t = .slice A n cap ∧ Hid (SecV wr (.slice A n cap) rest ∧ ∀ b, (Value.slice A n cap).ownBlock = some b → (Value.slice A0 n0 cap0).ownBlock = some b) ∧ Hid (J pre wr) ∧
  Hid (pre.map (fun x => (x.r, x.k)) ++ recsFrom c s f k rest = rr ∧ rest.length < f ∧ n = rest.length ∧ pre.length = k ∧ (pre.map (·.k)).sum + n = ss.length) ∧ k + n ≤ 8192 ∧ Hid (Fr (fun k => G k ∨ k = L) W wr))
  (fun t _ _ => slLen t)
 case atStart =>
  obtain ⟨A1, cap1, e, e1, e2, e3⟩ := HC.out.2.2.2.2.2.1
  injection e with e4 e5 e6
  exact ⟨0, [], ss, ss.length + 1, A0, n0, cap0, rfl, rfl, Lib.hid ⟨HC.out.2.2.2.2.2.1, fun b hb => hb⟩, Lib.hid h0, Lib.hid ⟨by rw [HC.out.2.2.2.2.2.2.2]; rfl, Nat.lt_succ_self _, e5, rfl, by simpa using e5⟩, by omega, Lib.hid (Fr.refl _ _)⟩
 case round =>
  obtain ⟨k, pre, rest, f, A, n, cap, rfl, rfl, HS, HJ, HR, hkn, HF⟩ := hrel
  clear h0 hcl
  have HJN := Lib.hid (join_any (secV_in HS.out.1) (by have := HR.out.2.2.1; omega))
  obtain ⟨f, rfl⟩ : ∃ f', f = f' + 1 := ⟨f - 1, by have := HR.out.2.1; omega⟩
  gi_wp2
  refine ⟨trivial, (callsIn_wide.2 HJN.out).mono ?_⟩
  rintro e w2 ⟨g1, g2, g3⟩
  cases hj : joinOf rest with
  | none =>
    obtain rfl := g1 hj
    have hend : pre.map (fun x => (x.r, x.k)) = rr := by
     rw [← HR.out.1, recsFrom, hj]
     simp
    have HE := Lib.hid (And.intro hend (hJ _ _ _ HJ.out (g3.alloc (.cells #[.int .u64 0, .int .i64 0] 148))))
    clear hend g1 g2 g3 hj HJN
    gi_wp2
    refine bodyPost_ret (results_none rfl _ _ _) rfl ?_
    exact ⟨⟨_, rfl⟩, pre, HE.out.1, HE.out.2⟩
  | some b =>
    obtain ⟨Ab, rfl, hrb⟩ := g2 b hj
    have hjl := join_long HS.out.1.all128 hj
    have hrec : recsFrom c s (f + 1) k rest = (if (tagAt rest).2 = k ∧ s ≤ (tagAt rest).1 ∧ (tagAt rest).1 ≤ c then
     match recOf b with
     | none => []
     | some r => (r, needN (b.length : Nat)) :: recsFrom c s f (k + 1) (rest.drop (needN (b.length : Nat)))
     else []) := by
     rw [recsFrom, hj]
     all_goals rfl
    obtain ⟨tc, htc⟩ : ∃ tc, tc = (tagAt rest).1 := ⟨_, rfl⟩
    obtain ⟨tn, htn⟩ : ∃ tn, tn = (tagAt rest).2 := ⟨_, rfl⟩
    obtain ⟨lg, hlg⟩ : ∃ lg, lg = needN (b.length : Nat) := ⟨_, rfl⟩
    rw [← htc, ← htn, ← hlg] at hrec
    rw [← hlg] at hjl
    rw [← htc, ← htn, ← hlg]
    have hf3 : Fr (fun _ => False) wr (w2.alloc (.cells #[.int .u64 (tc : Nat), .int .i64 (tn : Nat)] 148)) := g3.alloc _
    have e0 := (((HF.out.trans hf3 (fun _ _ q => q.elim)).cell (p := ⟨Bh, 0, none⟩) (World.block_lt_of_cell? W _ HC.out.2.2.2.1) HC.out.2.2.1)).trans HC.out.2.2.2.1
    have e1 := (((HF.out.trans hf3 (fun _ _ q => q.elim)).cell (p := ⟨Bh, 1, none⟩) (World.block_lt_of_cell? W _ HC.out.2.2.2.2.1) HC.out.2.2.1)).trans HC.out.2.2.2.2.1
    have hrb3 := hrb.keep ((Fr.refl (fun _ => False) w2).alloc (.cells #[.int .u64 (tc : Nat), .int .i64 (tn : Nat)] 148)) (fun _ _ q => q)
    have H3 := Lib.hid (And.intro hf3 (And.intro hrb3 (And.intro hjl hrec)))
    clear hf3 hrb3 hjl hrec g1 g2 g3 hj HJN hrb htc htn hlg
    by_cases q1 : tn = k
    · subst q1
      by_cases q2 : tc < s
      · have q2' : (tc : Int) < (s : Int) := by omega
        have hend : pre.map (fun x => (x.r, x.k)) = rr := by rw [← HR.out.1, H3.out.2.2.2, if_neg (by omega)]; simp
        have HE := Lib.hid (And.intro hend (hJ _ _ _ HJ.out H3.out.1))
        clear hend
        gi_wp2
        refine bodyPost_ret (results_none rfl _ _ _) rfl ?_
        exact ⟨⟨_, rfl⟩, pre, HE.out.1, HE.out.2⟩
      · have q2' : ¬ (tc : Int) < (s : Int) := by omega
        by_cases q3 : c < tc
        · have q3' : (c : Int) < (tc : Int) := by omega
          have hend : pre.map (fun x => (x.r, x.k)) = rr := by rw [← HR.out.1, H3.out.2.2.2, if_neg (by omega)]; simp
          have HE := Lib.hid (And.intro hend (hJ _ _ _ HJ.out H3.out.1))
          clear hend
          gi_wp2
          refine bodyPost_ret (results_none rfl _ _ _) rfl ?_
          exact ⟨⟨_, rfl⟩, pre, HE.out.1, HE.out.2⟩
        · have q3' : ¬ (c : Int) < (tc : Int) := by omega
          have hrec := H3.out.2.2.2
          rw [if_pos (by omega)] at hrec
          have HO := Lib.hid (of_any H3.out.2.1 (Nat.le_refl _) (by have := H3.out.2.2.1.1; omega))
          have HRE := Lib.hid hrec
          clear hrec
          gi_wp2
          refine ⟨trivial, (callsIn_wide.2 HO.out).mono ?_⟩
          rintro e w4 ⟨o1, o2, o3⟩
          have hf4 := H3.out.1.trans o3 (fun _ _ q => q)
          have hJ4 := hJ _ _ _ HJ.out hf4
          cases hro : recOf b with
          | none =>
            obtain rfl := o1 hro
            have hend : pre.map (fun x => (x.r, x.k)) = rr := by rw [← HR.out.1, HRE.out, hro]; simp
            have HE := Lib.hid (And.intro hend hJ4)
            clear hend o1 o2 o3 hf4 hJ4 hro HO
            gi_wp2
            all_goals
             rename_i K0 hK0 x1 x2 x3 x4
             refine ⟨fun f hf => (by cases hf), hK0 _ _ ?_⟩
             clear hK0 x4
             gi_wp2
             refine bodyPost_ret (results_none rfl _ _ _) rfl ?_
             exact ⟨⟨_, rfl⟩, pre, HE.out.1, HE.out.2⟩
          | some r =>
            obtain ⟨vr, rfl, hv1, hv2⟩ := o2 r hro
            have hwr := HF.out.size
            have hrs : recsFrom c s (f + 1) tn rest = (r, lg) :: recsFrom c s f (tn + 1) (rest.drop lg) := by rw [HRE.out, hro]
            obtain ⟨fn, tmps, assign, body, hy, hR⟩ := hY pre ⟨vr, r, lg⟩ w4 hJ4 ⟨⟨hv1, fun b' hb' => by
             have h1 := (hv2 b' hb').1
             have h2 := H3.out.1.size
             have h3 := HC.out.2.2.2.2.2.2.1
             exact ⟨by omega, (hv2 b' hb').2⟩⟩, by have := HR.out.2.2.2.1; omega, by show (pre.map (·.k)).sum + lg ≤ 8192; have := HR.out.2.2.2.2; have := HR.out.2.2.1; have := H3.out.2.2.1; omega⟩
            obtain ⟨A', hsl, hs1, hs2⟩ := slice_secV HS.out.1 lg H3.out.2.2.1.2.2
            have HN := Lib.hid (And.intro hrs (And.intro hs1 (And.intro hs2 hf4)))
            clear hrs hs1 hs2 hf4 hv1 hv2 o1 o2 o3 hro hJ4 HO e0 e1
            dsimp only [encR] at hy
            gi_wp2
            refine hR.mono ?_
            rintro e W5 ⟨rfl, hJ5, hF5⟩
            have hF6 := (HF.out.trans HN.out.2.2.2 (fun _ _ q => q.elim)).trans hF5 (fun _ _ q => q)
            have HJ5 := Lib.hid hJ5
            have HF6 := Lib.hid hF6
            have HF5 := Lib.hid hF5
            clear hJ5 hF6 hF5 hy hR
            gi_wp2
            go_roundw
            case rel =>
             have hS5 : SecV W5 (.slice A' (n - lg) (cap - lg)) (rest.drop lg) := by
              have h1 := slice_secV (w := W5) (A := A) (n0 := n) (cap := cap) (ss := rest) ?_ lg H3.out.2.2.1.2.2
              · obtain ⟨A2, hsl2, hs3, _⟩ := h1
                have h2 := hsl W5
                rw [hsl2 W5] at h2
                injection h2 with h2
                rw [h2] at hs3
                exact hs3
              · obtain ⟨A1, cap1, e1, e2, e3, e4⟩ := HS.out.1
                refine ⟨A1, cap1, e1, e2, e3, fun q => ?_⟩
                obtain ⟨b1, off1, rfl, hs⟩ := e4 q
                injection e1 with e5 _ _
                subst e5
                exact ⟨b1, off1, rfl, (hs.keep HN.out.2.2.2 (fun q => q)).keep HF5.out (HC.out.1 b1 (HS.out.2 b1 rfl))⟩
             refine ⟨tn + 1, pre ++ [⟨vr, r, lg⟩], rest.drop lg, f, A', n - lg, cap - lg, by go_num, rfl, Lib.hid ⟨hS5, fun b' hb' => HS.out.2 b' (HN.out.2.2.1 b' hb')⟩, HJ5, Lib.hid ⟨?_, ?_, ?_, ?_, ?_⟩, ?_, HF6⟩
             · rw [← HR.out.1, HN.out.1]
               simp
             · have := HR.out.2.1
               have := H3.out.2.2.1
               rw [List.length_drop]
               omega
             · rw [List.length_drop, HR.out.2.2.1]
             · rw [List.length_append, HR.out.2.2.2.1]; rfl
             · have := HR.out.2.2.2.2
               have := H3.out.2.2.1
               have := HR.out.2.2.1
               simp
               omega
             · have := H3.out.2.2.1
               have := HR.out.2.2.1
               omega
            case measure =>
             have := H3.out.2.2.1
             have := HR.out.2.2.1
             simp [slLen]
             omega
    · have q1' : ¬ (tn : Int) = (k : Int) := by omega
      have hend : pre.map (fun x => (x.r, x.k)) = rr := by rw [← HR.out.1, H3.out.2.2.2, if_neg (by omega)]; simp
      have HE := Lib.hid (And.intro hend (hJ _ _ _ HJ.out H3.out.1))
      clear hend
      gi_wp2
      refine bodyPost_ret (results_none rfl _ _ _) rfl ?_
      exact ⟨⟨_, rfl⟩, pre, HE.out.1, HE.out.2⟩
end Go.Proofs.YtcnlgbjkjlbmbaaGreat

namespace Go.Proofs.YtcnlgbjkjlbmbaaGreat
open Go.RowKit

abbrev logC (g z c s used many : Nat) (dd : Bool) : Array Value := #[.pointer (some ⟨g, 0, none⟩), .int .i64 (z : Nat), .int .u64 (c : Nat), .int .u64 (s : Nat), .int .i64 (used : Nat), .int .i64 (many : Nat), .bool dd]
abbrev LgW (w : World) (lb g z c s used many : Nat) (dd : Bool) : Prop := Blk w lb 120 (logC g z c s used many dd)
section
variable {w : World} {lb g z c s used many : Nat} {dd : Bool} {p : Value}
set_option maxRecDepth 100000 in
theorem lg_cells (h : LgW w lb g z c s used many dd) : (w.cell? ⟨lb, 0, none⟩ = some (.pointer (some ⟨g, 0, none⟩)) ∧ w.cell? ⟨lb, 1, none⟩ = some (.int .i64 (z : Nat)) ∧ w.cell? ⟨lb, 2, none⟩ = some (.int .u64 (c : Nat)) ∧ w.cell? ⟨lb, 3, none⟩ = some (.int .u64 (s : Nat)) ∧ w.cell? ⟨lb, 4, none⟩ = some (.int .i64 (used : Nat)) ∧ w.cell? ⟨lb, 5, none⟩ = some (.int .i64 (many : Nat)) ∧ w.cell? ⟨lb, 6, none⟩ = some (.bool dd)) ∧ ∀ i, w.frozen? ⟨lb, i, none⟩ = false := by
 refine ⟨⟨?_, ?_, ?_, ?_, ?_, ?_, ?_⟩, fun i => h.frozen i⟩ <;> rw [h.cell] <;> rfl
set_option maxRecDepth 100000 in
theorem lnone_any (h : LgW w lb g z c s used many dd) : Calls Tryz.prog 87 #[.pointer (some ⟨lb, 0, none⟩)] w fun e w' => e = .returned (.bool false) ∧ w = w' := by
 obtain ⟨⟨c0, _⟩, _⟩ := lg_cells h
 clear h
 go_enter Tryz.func87, Tryz.ntmps87
 go_wp2_with fail
 go_ret
 exact ⟨rfl, rfl⟩
set_option maxRecDepth 100000 in
theorem lcount_any (h : LgW w lb g z c s used many dd) : Calls Tryz.prog 82 #[.pointer (some ⟨lb, 0, none⟩)] w fun e w' => e = .returned (.int .u64 (c : Nat)) ∧ w' = w := by
 have HN := Lib.hid (lnone_any h)
 obtain ⟨⟨c0, c1, c2, c3, c4, c5, c6⟩, _⟩ := lg_cells h
 clear h
 skip
 go_enter Tryz.func82, Tryz.ntmps82
 go_wp2_with (go_at_call 87; refine HN.out.mono ?_; rintro e w' ⟨rfl, rfl⟩)
 skip
 go_ret
 exact ⟨rfl, rfl⟩
set_option maxRecDepth 100000 in
theorem lroom_any (h : LgW w lb g z c s used many dd) (hz : used ≤ z) (hz9 : z ≤ 4000) : Calls Tryz.prog 55 #[.pointer (some ⟨lb, 0, none⟩)] w fun e w' => e = .returned (.int .i64 ((z - used : Nat) : Int)) ∧ w' = w.drew := by
 have HN := Lib.hid (lnone_any h)
 obtain ⟨⟨c0, c1, c2, c3, c4, c5, c6⟩, _⟩ := lg_cells h
 clear h
 have hw : (z : Int) - (used : Int) = ((z - used : Nat) : Int) := by omega
 go_enter Tryz.func55, Tryz.ntmps55
 go_wp2_with (go_at_call 87; refine HN.out.mono ?_; rintro e w' ⟨rfl, rfl⟩)
 go_region; go_wp2_with fail
 go_ret
 exact ⟨rfl, rfl⟩
set_option maxRecDepth 100000 in
theorem refuses_any (h : LgW w lb g z c s used many dd) : Calls Tryz.prog 105 #[.pointer (some ⟨lb, 0, none⟩)] w fun e w' => e = .returned (.int .i64 (if dd then 10 else 0)) ∧ w = w' := by
 have HN := Lib.hid (lnone_any h)
 obtain ⟨⟨c0, c1, c2, c3, c4, c5, c6⟩, _⟩ := lg_cells h
 clear h
 cases dd
 all_goals
  go_enter Tryz.func105, Tryz.ntmps105
  go_wp2_with (go_at_call 87; refine HN.out.mono ?_; rintro e w' ⟨rfl, rfl⟩)
  go_ret
  exact ⟨rfl, rfl⟩
set_option maxRecDepth 100000 in
theorem lsettle_any {B : Nat} {P : Nat → Prop} {d : DS} {v : Value} {ss : List (List UInt8)} (h : LgW w lb g z c s used many dd) (hlb : ¬ P lb) (hd : DAt w B P g d) {i : Nat} (hv : SecV w v ss) (hvP : ∀ b, v.ownBlock = some b → ¬ P b) (hi : i + ss.length ≤ d.rd.length) (hN : ∀ j, (d.vs j).length ≤ 10000) :
 Calls Tryz.prog 75 #[.pointer (some ⟨lb, 0, none⟩), .int .i64 i, v] w fun e w' => e = .returned (.int .i64 (if d.settles i ss then 0 else 10)) ∧ LgW w' lb g z c s used many (!d.settles i ss) ∧ (∃ P', DAt w' B P' g (d.settle i ss) ∧ ∀ b, P' b → P b ∨ w.heap.size ≤ b) ∧ Fr (fun b => P b ∨ b = lb) w w' := by
 obtain ⟨⟨c0, c1, c2, c3, c4, c5, c6⟩, hfz⟩ := lg_cells h
 have hlt := h.lt
 have HS := Lib.hid (settle_any hd hv hvP hi hd.len.2 hN)
 have HH := Lib.hid (And.intro h hlb)
 have hPl : ∀ b, P b → b ≠ lb := fun b hb e => hlb (e ▸ hb)
 obtain ⟨st, hst⟩ : ∃ st, st = d.settles i ss := ⟨_, rfl⟩
 rw [← hst] at HS ⊢
 have HP := Lib.hid hPl
 clear h hlb hd hv hvP hi hN hPl hst c1 c2 c3 c4 c5 c6 hfz
 have HK : Hid (∀ w', Fr P w w' → LgW w' lb g z c s used many dd) := Lib.hid fun w' f => HH.out.1.keep f HH.out.2
 cases st
 · go_enter Tryz.func75, Tryz.ntmps75
   go_wp2_with fail
   refine HS.out.mono ?_
   rintro e w2 ⟨rfl, ⟨P', hp1, hp2⟩, hf2⟩
   have hl2 := HK.out w2 hf2
   obtain ⟨⟨_, _, _, _, _, _, e6⟩, hfz⟩ := lg_cells hl2
   have f6 := hfz 6
   have H2 := Lib.hid (And.intro hp1 (And.intro hp2 (And.intro hf2 hl2)))
   clear hp1 hp2 hf2 hl2 hfz c0
   go_wp2_with fail
   go_ret
   have fB : ∀ u, Fr (fun b => b = lb) w2 (w2.setCell ⟨lb, 6, none⟩ u) := fun u => (Fr.refl (fun b => b = lb) w2).setCell (p := ⟨lb, 6, none⟩) (.inl rfl) u
   refine ⟨rfl, ?_, ⟨P', H2.out.1.keep (fB _) (fun b hb e => ?_), H2.out.2.1⟩, (H2.out.2.2.1.mono (fun _ _ q => .inl q)).trans (fB _) (fun _ _ q => .inr q)⟩
   · have := H2.out.2.2.2.set_ 6 (.bool true)
     simpa [logC] using this
   · rcases H2.out.2.1 b hb with q | q
     · exact HP.out b q e
     · omega
 · go_enter Tryz.func75, Tryz.ntmps75
   go_wp2_with fail
   refine HS.out.mono ?_
   rintro e w2 ⟨rfl, ⟨P', hp1, hp2⟩, hf2⟩
   have hl2 := HK.out w2 hf2
   obtain ⟨⟨_, _, _, _, _, _, e6⟩, hfz⟩ := lg_cells hl2
   have f6 := hfz 6
   have H2 := Lib.hid (And.intro hp1 (And.intro hp2 (And.intro hf2 hl2)))
   clear hp1 hp2 hf2 hl2 hfz c0
   go_wp2_with fail
   go_ret
   have fB : ∀ u, Fr (fun b => b = lb) w2 (w2.setCell ⟨lb, 6, none⟩ u) := fun u => (Fr.refl (fun b => b = lb) w2).setCell (p := ⟨lb, 6, none⟩) (.inl rfl) u
   refine ⟨rfl, ?_, ⟨P', H2.out.1.keep (fB _) (fun b hb e => ?_), H2.out.2.1⟩, (H2.out.2.2.1.mono (fun _ _ q => .inl q)).trans (fB _) (fun _ _ q => .inr q)⟩
   · have := H2.out.2.2.2.set_ 6 (.bool false)
     simpa [logC] using this
   · rcases H2.out.2.1 b hb with q | q
     · exact HP.out b q e
     · omega
end
end Go.Proofs.YtcnlgbjkjlbmbaaGreat

namespace Go.Proofs.YtcnlgbjkjlbmbaaGreat
open Go.RowKit

section
variable {w : World} {lb g z c s used many B : Nat} {P : Nat → Prop} {d : DS}
set_option maxRecDepth 100000 in
set_option maxHeartbeats 2000000 in
theorem ltrunc_any (h : LgW w lb g z c s used many false) (hlb : ¬ P lb) (hd : DAt w B P g d) (hc : c < maxC) (hs : s ≤ maxC) (hN : ∀ j, (d.vs j).length ≤ 10000) : Calls Tryz.prog 77 #[.pointer (some ⟨lb, 0, none⟩)] w fun e w' =>
 e = .returned (.int .i64 (if d.settles 0 [hdS (c + 1) (c + 1)] then 0 else 10)) ∧ (if d.settles 0 [hdS (c + 1) (c + 1)] then LgW w' lb g z (c + 1) (c + 1) 0 0 false else LgW w' lb g z c s used many true) ∧
 (∃ P', DAt w' B P' g (d.settle 0 [hdS (c + 1) (c + 1)]) ∧ ∀ b, P' b → P b ∨ w.heap.size ≤ b) ∧ Fr (fun b => P b ∨ b = lb) w w' := by
 have HN := Lib.hid (refuses_any h)
 obtain ⟨⟨c0, c1, c2, c3, c4, c5, c6⟩, _⟩ := lg_cells h
 have HH := Lib.hid (And.intro h (And.intro hlb (And.intro hd (And.intro hc (And.intro hs hN)))))
 have hlt := h.lt
 obtain ⟨st, hst⟩ : ∃ st, st = d.settles 0 [hdS (c + 1) (c + 1)] := ⟨_, rfl⟩
 rw [← hst]
 have HST := Lib.hid hst
 clear h hlb hd hc hs hN hst
 go_enter Tryz.func77, Tryz.ntmps77
 go_wp2_with (go_at_call 105; refine HN.out.mono ?_; rintro e w' ⟨rfl, rfl⟩)
 refine (trunc_any w c s HH.out.2.2.2.1 HH.out.2.2.2.2.1).mono ?_
 rintro e w2 ⟨rfl, f2⟩
 have HF := Lib.hid f2
 clear f2 c0 c1 c2 c3 c4 c5 c6 HN
 go_wp2_with fail
 refine (sector_one _ HH.out.2.2.2.1).mono ?_
 rintro e w5 ⟨rfl, f5⟩
 have f5' := (HF.out.alloc (.cells #[.int .u64 ((c : Int) + 1), .int .u64 ((c : Int) + 1)] 114)).trans f5 (fun _ _ q => q)
 have f6 := f5'.alloc (.cells (cellsB (hdS (c + 1) (c + 1))).toArray 83)
 have hb6 := Blk.new w5 83 (cellsB (hdS (c + 1) (c + 1))).toArray
 have hb4 := (Blk.new w2 114 #[.int .u64 ((c : Int) + 1), .int .u64 ((c : Int) + 1)]).keep (f5.alloc (.cells (cellsB (hdS (c + 1) (c + 1))).toArray 83)) (fun q => q)
 have hz2 := HF.out.size
 have HS := Lib.hid (lsettle_any (HH.out.1.keep f6 (fun q => q)) HH.out.2.1 (HH.out.2.2.1.new f6) (i := 0) (SecV.one hb6 (hdS_len _ _)) (fun b hb q => by
  injection hb with hb
  have h1 := (HH.out.2.2.1.2 b q).2
  have h2 := f5'.size
  simp at hb
  omega) (by have := HH.out.2.2.1.len; simp; omega) HH.out.2.2.2.2.2)
 have HF6 := Lib.hid (And.intro f6 hb4)
 have hg2 : ¬ (P w2.heap.size ∨ w2.heap.size = lb) := by
  rintro (q | q)
  · have := (HH.out.2.2.1.2 _ q).2; omega
  · omega
 rw [← HST.out] at HS
 clear f5 f5' f6 hb6 hb4 HF
 go_wp2_with (refine wpList_build_sec rfl _ rfl (hdS_len (c + 1) (c + 1)) rfl ?_)
 cases st with
 | false =>
   refine HS.out.mono ?_
   rintro e w7 ⟨rfl, h7, ⟨P', h8, h9⟩, f7⟩
   have H7 := Lib.hid (And.intro h7 (And.intro h8 (And.intro h9 f7)))
   clear h7 h8 h9 f7 HS
   go_wp2_with fail
   go_ret
   refine ⟨rfl, by simpa using H7.out.1, ⟨P', H7.out.2.1, fun b hb => (H7.out.2.2.1 b hb).imp id (fun q => Nat.le_trans HF6.out.1.size q)⟩, (HF6.out.1.mono (fun _ _ q => q.elim)).trans H7.out.2.2.2 (fun _ _ q => q)⟩
 | true =>
   refine HS.out.mono ?_
   rintro e w7 ⟨rfl, h7, ⟨P', h8, h9⟩, f7⟩
   have hb7 := HF6.out.2.keep f7 hg2
   have e0 := hb7.cell 0
   have e1 := hb7.cell 1
   simp at e0 e1
   obtain ⟨⟨d0, d1, d2, d3, d4, d5, d6⟩, hfz⟩ := lg_cells h7
   have z2 := hfz 2
   have z3 := hfz 3
   have z4 := hfz 4
   have z5 := hfz 5
   have H7 := Lib.hid (And.intro h7 (And.intro h8 (And.intro h9 f7)))
   clear h7 h8 h9 f7 HS hb7 hfz d0 d1 d6
   go_wp2_with fail
   go_ret
   have fB : ∀ u2 u3 u5 u4, Fr (fun b => b = lb) w7 ((((w7.setCell ⟨lb, 2, none⟩ u2).setCell ⟨lb, 3, none⟩ u3).setCell ⟨lb, 5, none⟩ u5).setCell ⟨lb, 4, none⟩ u4) := fun u2 u3 u5 u4 =>
    ((((Fr.refl (fun b => b = lb) w7).setCell (p := ⟨lb, 2, none⟩) (.inl rfl) u2).setCell (p := ⟨lb, 3, none⟩) (.inl rfl) u3).setCell (p := ⟨lb, 5, none⟩) (.inl rfl) u5).setCell (p := ⟨lb, 4, none⟩) (.inl rfl) u4
   refine ⟨rfl, ?_, ⟨P', H7.out.2.1.keep (fB _ _ _ _) (fun b hb e => ?_), fun b hb => (H7.out.2.2.1 b hb).imp id (fun q => Nat.le_trans HF6.out.1.size q)⟩, ((HF6.out.1.mono (fun _ _ q => q.elim)).trans H7.out.2.2.2 (fun _ _ q => q)).trans (fB _ _ _ _) (fun _ _ q => .inr q)⟩
   · have := (((H7.out.1.set_ 2 (.int .u64 ((c : Int) + 1))).set_ 3 (.int .u64 ((c : Int) + 1))).set_ 5 (.int .i64 0)).set_ 4 (.int .i64 0)
     show Blk _ lb 120 _
     simpa [logC, Int.natCast_add] using this
   · rcases H7.out.2.2.1 b hb with q | q
     · exact HH.out.2.1 (e ▸ q)
     · have := HF6.out.1.size
       omega
end
end Go.Proofs.YtcnlgbjkjlbmbaaGreat

namespace Go.Proofs.YtcnlgbjkjlbmbaaGreat
open Go.RowKit

set_option maxRecDepth 100000 in
theorem alloc_agg {t : TypeId} {cs : Array Value} (h : ∀ w, (zeroValue t).run Tryz.prog w = .ok (.agg cs) w) (w : World) :
 (Instr.alloc t true (.tuple #[])).run Tryz.prog w = .ok (.pointer (some ⟨w.heap.size, 0, none⟩)) (w.alloc (.cells cs t)) := by
 unfold Instr.alloc
 rw [Sem.run_bind, h]
 simp only [Result.andThen_ok]
 go_simp
section
variable {ops : Array Oper} {o : Oper} {a : Act} {Q : Exit → Act → World → Prop}
set_option maxRecDepth 100000 in
theorem wpList_zero_agg {rest : List Oper} {w : World} (hg : o.guard = none) (t : TypeId) (ho : o.op = .alloc t) {cs : Array Value} (h : ∀ w, (zeroValue t).run Tryz.prog w = .ok (.agg cs) w)
 (hK : wpList Tryz.prog ops Q rest (a.put o.dst (.pointer (some ⟨w.heap.size, 0, none⟩))) (w.alloc (.cells cs t))) : wpList Tryz.prog ops Q (o :: rest) a w := by
 refine wpList_plain hg fun K hK' => ?_
 have hr := alloc_agg h w
 unfold Oper.wp execOp
 simp only [ho, Sem.run_bind, hr, Result.andThen_ok, Sem.run_pure, Oper.upon]
 exact hK' _ _ hK
end
def okN (x : Chg) : Bool := decide (0 ≤ x.n) && decide (x.n ≤ 2147483647)
def mayR (r : List Chg) : Bool := decide (1 ≤ r.length) && (decide (r.length ≤ 60) && r.all okN)
def bytesR (r : List Chg) : List UInt8 := (r.map fun x => be x.n.toNat 4 ++ x.p).flatten
set_option maxRecDepth 100000 in
theorem bytesR_snoc (r : List Chg) (x : Chg) : bytesR (r ++ [x]) = bytesR r ++ (be x.n.toNat 4 ++ x.p) := by simp [bytesR]
set_option maxRecDepth 100000 in
theorem bytesR_len {r : List Chg} (h : ∀ x ∈ r, x.p.length = 512) : (bytesR r).length = r.length * 516 := by
 unfold bytesR
 induction r with
 | nil => rfl
 | cons x r ih =>
   rw [List.map_cons, List.flatten_cons, List.length_append, ih (fun y hy => h y (by simp [hy])), List.length_cons, List.length_append, be_len, h x (by simp)]
   omega
set_option maxRecDepth 100000 in
theorem make_bytes0 (W : World) (N : Nat) (hN : N ≤ 1000000) : ∃ cs, (Instr.makeSlice 46 (.int .i64 0) (.int .i64 (N : Nat))).run Tryz.prog W = .ok (.slice (some ⟨W.heap.size, 0, none⟩) 0 N) (W.alloc (.cells cs 5)) ∧ cs.size = N := by
 obtain ⟨i0, hi, hz0, hz1, hz2⟩ := info_parts infoU8
 have h := run_make (P := Tryz.prog) W 46 5 i0 (.int .u8 0) Tryz.underlying46 hi hz0 .i64 .i64 0 N (by omega) (by omega) (by rw [hz2]; omega) (by omega)
 rw [hz1, Int.toNat_natCast] at h
 exact ⟨_, h, by simp [madeCells]⟩
set_option maxRecDepth 100000 in
theorem RcV.all512 {w : World} {v : Value} {r : List Chg} (h : RcV w v r) : ∀ x ∈ r, x.p.length = 512 := fun x hm => by
 obtain ⟨A, ca, _, _, _, h3⟩ := h
 obtain ⟨i, hi⟩ := List.getElem?_of_mem hm
 have hlt : i < r.length := (List.getElem?_eq_some_iff.1 hi).1
 obtain ⟨b, off, _, hs⟩ := h3 (by omega)
 exact (hs i x hi).1
def ByR (w : World) (r : List Chg) (e : Ending) (w' : World) : Prop :=
 (mayR r = false → e = .returned (.tuple #[.slice none 0 0, .int .i64 2])) ∧ (mayR r = true → ∃ A c, e = .returned (.tuple #[.slice A (bytesR r).length c, .int .i64 0]) ∧ Rd w' A (bytesR r).length (bytesR r) ∧ (bytesR r).length ≤ c) ∧ Fr (fun _ => False) w w'
set_option maxRecDepth 100000 in
theorem bytes_bad {w : World} {v : Value} {r : List Chg} (h : RcV w v r) (hl : ¬ (1 ≤ r.length ∧ r.length ≤ 60)) : Calls Tryz.prog 112 #[v] w (ByR w r) := by
 obtain ⟨A, cap, rfl, h1, h2, h3⟩ := h
 have hmay : mayR r = false := by
  unfold mayR
  rw [Bool.eq_false_iff]
  intro q
  simp only [Bool.and_eq_true, decide_eq_true_eq] at q
  exact hl ⟨q.1, q.2.1⟩
 obtain ⟨n, hn⟩ : ∃ n, n = r.length := ⟨_, rfl⟩
 have hz : wneedN (n : Int) = 0 := by unfold wneedN; rw [if_pos (by omega)]
 have HN := Lib.hid (wneed_any w (n : Int))
 rw [hz] at HN
 have HM := Lib.hid hmay
 rw [← hn]
 clear h1 h2 h3 hl hmay hn hz
 go_enter Tryz.func112, Tryz.ntmps112
 go_wp2_with fail
 refine HN.out.mono ?_
 rintro e w1 ⟨rfl, rfl⟩
 go_wp2_with fail
 refine bodyPost_ret (results_tmp2 rfl _ _ _) rfl ?_
 exact ⟨fun _ => rfl, (fun q => by rw [HM.out] at q; cases q), Fr.refl _ _⟩
set_option maxRecDepth 100000 in
set_option maxHeartbeats 2000000 in
theorem bytes_ok {w : World} {v : Value} {r : List Chg} (h : RcV w v r) (h1 : 1 ≤ r.length) (h60 : r.length ≤ 60) : Calls Tryz.prog 112 #[v] w (ByR w r) := by
 have hall := h.all512
 obtain ⟨A, cap, rfl, hc1, hc2, h3⟩ := h
 obtain ⟨b, off, rfl, hat⟩ := h3 (by omega)
 obtain ⟨n, hn⟩ : ∃ n, n = r.length := ⟨_, rfl⟩
 have hz := wneed_pos (n := n) (by omega) (by omega)
 have HN := Lib.hid (wneed_any w (n : Int))
 have hzb : ((wneedN (n : Int) : Nat) : Int) ≠ 0 := by omega
 generalize wneedN (n : Int) = z at *
 have hzb2 : ((z : Int) == 0) = false := by rw [beq_eq_false_iff_ne]; exact hzb
 obtain ⟨cs, hmk, hcs⟩ := make_bytes0 w (n * 516) (by omega)
 have hmk' : (Instr.makeSlice 46 (.int .i64 0) (.int .i64 ((n : Int) * 516))).run Tryz.prog w = .ok (.slice (some ⟨w.heap.size, 0, none⟩) 0 (n * 516)) (w.alloc (.cells cs 5)) := hmk
 have hn60 : n ≤ 60 := by omega
 have HH := Lib.hid (And.intro hn (And.intro hat (And.intro hall (And.intro h1 (And.intro h60 hcs)))))
 have hbl : b < w.heap.size := by
  obtain ⟨x, hx⟩ : ∃ x, r[0]? = some x := ⟨_, List.getElem?_eq_getElem (by omega)⟩
  have hl := chC_len (hat 0 x hx).1
  obtain ⟨c, hc⟩ : ∃ c, (chC x)[0]? = some c := ⟨_, rfl⟩
  exact World.block_lt_of_cell? w _ ((hat 0 x hx).2 0 c hc)
 rw [← hn]
 clear hat hall hn hc1 hc2 h3 hz hzb hmk hcs h1 h60
 go_enter Tryz.func112, Tryz.ntmps112
 go_wp2_with fail
 refine HN.out.mono ?_
 rintro e w1 ⟨rfl, rfl⟩
 clear HN
 go_wp2_with fail
 have hw0 : (w.alloc (.cells cs 5)).ownsRow w.heap.size 5 1 (.slice (some ⟨w.heap.size, 0, none⟩) 0 (n * 516)) (bytesR (r.take 0)).length (cellsB (bytesR (r.take 0))) := ⟨rfl, .inr ⟨w.heap.size, n * 516, cs, rfl, Nat.le_refl _, Blk.new w _ _, Nat.zero_le _, by simp only [maxLen]; omega, by have := HH.out.2.2.2.2.2; omega, by simp [bytesR, cellsB]⟩⟩
 have HW0 := Lib.hid (And.intro hw0 ((Fr.refl (fun _ => False) w).alloc (.cells cs 5)))
 clear hw0 hmk'
 go_loopw [4, 17] (fun t q wr => ∃ (k : Nat), q = .int .i64 k ∧ k ≤ n ∧ Hid (wr.ownsRow w.heap.size 5 1 t (bytesR (r.take k)).length (cellsB (bytesR (r.take k)))) ∧ Hid (∀ x ∈ r.take k, okN x = true) ∧ Hid (Fr (fun _ => False) w wr)) (fun _ q _ => n - (intOf q).toNat)
 case atStart => exact ⟨0, rfl, Nat.zero_le _, Lib.hid HW0.out.1, Lib.hid (fun x hx => by simp at hx), Lib.hid HW0.out.2⟩
 case round =>
  obtain ⟨k, rfl, hk, HO, HV, HF⟩ := hrel
  clear HW0
  by_cases hlt : k < n
  · obtain ⟨x, hx⟩ : ∃ x, r[k]? = some x := ⟨_, List.getElem?_eq_getElem (by have := HH.out.1; omega)⟩
    have hxl := (HH.out.2.1 k x hx).1
    have hr := (HH.out.2.1 k x hx).2
    have hr' : wr.rangeAt b (off + k * 513) (chC x) := fun j u hj => (HF.out.cell (World.block_lt_of_cell? w _ (hr j u hj)) (fun q => q)).trans (hr j u hj)
    have hts : r.take (k + 1) = r.take k ++ [x] := by rw [List.take_add_one, hx]; rfl
    obtain ⟨W2, hW2, hb2, hf2, hth⟩ : ∃ W2, W2 = (wr.alloc (.cells (chC zChg).toArray 101)).setCells wr.heap.size 0 (chC x) ∧ (∃ cs2, Blk W2 wr.heap.size 101 cs2 ∧ ∀ j u, (chC x)[j]? = some u → cs2[j]? = some u) ∧ Fr (fun _ => False) wr W2 ∧ (wr.alloc (.cells (chC zChg).toArray 101)).there wr.heap.size 0 (chC x).toArray.size := by
     have hbn := Blk.new wr 101 (chC zChg).toArray
     have hz9 : (chC zChg).length = 513 := chC_len (nought_len _)
     have hx9 : (chC x).length = 513 := chC_len hxl
     obtain ⟨cs2, j1, j2, j3, j4⟩ := hbn.range_set (vs := chC x) (o := 0) (by rw [List.size_toArray, hz9, hx9]; omega)
     exact ⟨_, rfl, ⟨cs2, j1, fun j u hu => by have := j3 j u hu; rwa [Nat.zero_add] at this⟩, Fr.setCells (.inr (Nat.le_refl _)) ((Fr.refl _ wr).alloc _), hbn.there (by rw [List.size_toArray, List.size_toArray, hz9, hx9]; omega)⟩
    obtain ⟨cs2, hb2, hj2⟩ := hb2
    have e0 : W2.cell? ⟨wr.heap.size, 0, none⟩ = some (.int .i64 x.n) := by rw [hb2.cell]; exact hj2 0 _ rfl
    have hrp : Rd W2 (some ⟨wr.heap.size, 1, none⟩) 512 x.p := ⟨hxl, fun _ => ⟨_, rfl, fun j c hc => by
     rw [Addr.add_mid, hb2.cell]
     have : (chC x)[1 + j]? = some (.int .u8 (c.toNat : Int)) := by
      rw [Nat.add_comm]
      simp [chC, cellsB, hc]
     exact hj2 (1 + j) _ this⟩⟩
    have HX := Lib.hid (And.intro hx (And.intro hxl (And.intro hr' (And.intro hts (And.intro hf2 hrp)))))
    have HTH := Lib.hid hth
    have hi0 : (0 : Int) ≤ (k : Int) := by omega
    have hi1 : (k : Int) < (n : Int) := by omega
    clear hx hxl hr hr' hts hb2 hf2 hth hrp hj2
    by_cases hb0 : x.n < 0
    · have hno : mayR r = false := by
       unfold mayR
       rw [Bool.eq_false_iff]
       intro q
       simp only [Bool.and_eq_true, decide_eq_true_eq, List.all_eq_true] at q
       have := q.2.2 x (List.mem_of_getElem? HX.out.1)
       unfold okN at this
       simp only [Bool.and_eq_true, decide_eq_true_eq] at this
       omega
      have HNO := Lib.hid hno
      clear hno
      go_wp2_with (first
       | (refine wpList_load_mid rfl 101 _ rfl b (off + k * 513) rfl (chC x) _ HX.out.2.2.1 Tryz.underlying101 rfl (by rw [infoChange, chC_len HX.out.2.1]) ?_)
       | (refine wpList_zero_agg rfl 101 rfl zeroChg ?_)
       | (refine wpList_store_mid rfl 101 _ _ rfl wr.heap.size 0 (chC x).toArray rfl rfl HTH.out (by rw [infoChange]; exact congrArg some (chC_len HX.out.2.1).symm) (all_oneCell_toArray (chC_one x)) ?_; rw [← hW2]; clear hW2))
      refine bodyPost_ret (results_tmp2 rfl _ _ _) rfl ?_
      exact ⟨fun _ => rfl, (fun q => by rw [HNO.out] at q; cases q), HF.out.trans HX.out.2.2.2.2.1 (fun _ _ q => q)⟩
    by_cases hb1 : x.n > 2147483647
    · have hb1' : 2147483647 < x.n := hb1
      have hno : mayR r = false := by
       unfold mayR
       rw [Bool.eq_false_iff]
       intro q
       simp only [Bool.and_eq_true, decide_eq_true_eq, List.all_eq_true] at q
       have := q.2.2 x (List.mem_of_getElem? HX.out.1)
       unfold okN at this
       simp only [Bool.and_eq_true, decide_eq_true_eq] at this
       omega
      have HNO := Lib.hid hno
      clear hno
      go_wp2_with (first
       | (refine wpList_load_mid rfl 101 _ rfl b (off + k * 513) rfl (chC x) _ HX.out.2.2.1 Tryz.underlying101 rfl (by rw [infoChange, chC_len HX.out.2.1]) ?_)
       | (refine wpList_zero_agg rfl 101 rfl zeroChg ?_)
       | (refine wpList_store_mid rfl 101 _ _ rfl wr.heap.size 0 (chC x).toArray rfl rfl HTH.out (by rw [infoChange]; exact congrArg some (chC_len HX.out.2.1).symm) (all_oneCell_toArray (chC_one x)) ?_; rw [← hW2]; clear hW2))
      refine bodyPost_ret (results_tmp2 rfl _ _ _) rfl ?_
      exact ⟨fun _ => rfl, (fun q => by rw [HNO.out] at q; cases q), HF.out.trans HX.out.2.2.2.2.1 (fun _ _ q => q)⟩
    obtain ⟨nn, hnn⟩ : ∃ nn : Nat, x.n = nn := ⟨x.n.toNat, by omega⟩
    have hcv : IntKind.u64.wrap (nn : Int) = (nn : Int) := by simp [IntKind.wrap, IntKind.signed, IntKind.bits]; omega
    rw [hnn] at e0 hb0 hb1
    go_wp2_with (first
     | (refine wpList_load_mid rfl 101 _ rfl b (off + k * 513) rfl (chC x) _ HX.out.2.2.1 Tryz.underlying101 rfl (by rw [infoChange, chC_len HX.out.2.1]) ?_)
     | (refine wpList_zero_agg rfl 101 rfl zeroChg ?_)
     | (refine wpList_store_mid rfl 101 _ _ rfl wr.heap.size 0 (chC x).toArray rfl rfl HTH.out (by rw [infoChange]; exact congrArg some (chC_len HX.out.2.1).symm) (all_oneCell_toArray (chC_one x)) ?_; rw [← hW2]; clear hW2))
    have ho2 := own_keep HO.out HX.out.2.2.2.2.1 (fun _ _ q => q)
    have hol := fun j hj => (HO.out.lt j hj).2
    have htl : (bytesR (r.take k)).length ≤ 31000 := by
     rw [bytesR_len (fun y hy => HH.out.2.2.1 y (List.mem_of_mem_take hy)), List.length_take]
     have := HH.out.1
     omega
    have hxn : be nn 4 ++ x.p = be x.n.toNat 4 ++ x.p := by rw [hnn]; rfl
    have hok : okN x = true := by unfold okN; rw [hnn]; simp; omega
    have HY := Lib.hid (And.intro hol (And.intro htl (And.intro hxn hok)))
    clear htl hol hxn hok e0 hb0
    refine (appnum_any ho2 (by have := HF.out.size; have := HX.out.2.2.2.2.1.size; omega) nn 4 (by omega) (by omega) (by have := HY.out.2.1; omega)).mono ?_
    rintro e w3 ⟨v3, rfl, ho3, hf3, _⟩
    have hrp3 := HX.out.2.2.2.2.2.keep hf3 (fun ad e q => by
     injection e with e
     subst e
     have := HY.out.1 _ q
     simp at this)
    have H3 := Lib.hid (And.intro ho3 (And.intro hf3 hrp3))
    clear ho2 ho3 hf3 hrp3 hnn hcv hb1
    go_wp2_with (refine wpList_more rfl _ _ rfl w.heap.size v3 (bytesR (r.take k) ++ be nn 4) x.p rfl H3.out.1 _ 512 512 rfl H3.out.2.2 (by have := HY.out.2.1; rw [List.length_append, be_len]; omega) (by have := HF.out.size; have := HX.out.2.2.2.2.1.size; have := H3.out.2.1.size; omega) ?_; intro v4 w4 ho4 hg4 hat4; have H4 := Lib.hid (And.intro ho4 hg4); clear ho4 hg4 hat4)
    have h4 := H4.out.1
    rw [List.append_assoc, HY.out.2.2.1, ← bytesR_snoc, ← HX.out.2.2.2.1] at h4
    refine ⟨⟨k + 1, by go_num, hlt, Lib.hid h4, Lib.hid (fun y hy => ?_), Lib.hid ?_⟩, by simp [intOf]; omega⟩
    · rw [HX.out.2.2.2.1] at hy
      rcases List.mem_append.1 hy with q | q
      · exact HV.out y q
      · rw [List.mem_singleton.1 q]
        exact HY.out.2.2.2
    · exact ((HF.out.trans HX.out.2.2.2.2.1 (fun _ _ q => q)).trans H3.out.2.1 (fun i hi q => absurd (own_low HO.out q) (by omega))).grown H4.out.2 (fun i hi => .inr (own_low H3.out.1 hi))
  · obtain rfl : k = n := by omega
    have htk : r.take k = r := List.take_of_length_le (by have := HH.out.1; omega)
    rw [htk] at HO HV
    have hmay : mayR r = true := by
     unfold mayR
     simp only [Bool.and_eq_true, decide_eq_true_eq, List.all_eq_true]
     exact ⟨HH.out.2.2.2.1, HH.out.2.2.2.2.1, HV.out⟩
    obtain ⟨A', c', rfl, hc', _⟩ := own_slice HO.out
    have HE := Lib.hid (And.intro hmay (And.intro (Rd.of_own HO.out) hc'))
    clear htk hmay hc' hlt hk
    go_wp2_with fail
    refine bodyPost_ret (results_tmp2 rfl _ _ _) rfl ?_
    exact ⟨(fun q => by rw [HE.out.1] at q; cases q), fun _ => ⟨A', c', rfl, HE.out.2.1, HE.out.2.2⟩, HF.out⟩
set_option maxRecDepth 100000 in
theorem bytes_any {w : World} {v : Value} {r : List Chg} (h : RcV w v r) : Calls Tryz.prog 112 #[v] w (ByR w r) := by
 by_cases hl : 1 ≤ r.length ∧ r.length ≤ 60
 · exact bytes_ok h hl.1 hl.2
 · exact bytes_bad h hl
end Go.Proofs.YtcnlgbjkjlbmbaaGreat

namespace Go.Proofs.YtcnlgbjkjlbmbaaGreat
open Go.RowKit

section
variable {w : World} {lb g z c s used many B : Nat} {P : Nat → Prop} {d : DS} {v : Value} {r : List Chg}
def rowS (c many : Nat) (r : List Chg) : List (List UInt8) := secs (rowB c many (bytesR r)) (needN ((bytesR r).length : Nat))
set_option maxRecDepth 100000 in
theorem rowS_len (c many : Nat) (r : List Chg) : (rowS c many r).length = needN ((bytesR r).length : Nat) := secs_len _ _
set_option maxRecDepth 100000 in
theorem mayR_len {r : List Chg} (h : mayR r = true) : 1 ≤ r.length ∧ r.length ≤ 60 := by
 unfold mayR at h
 simp only [Bool.and_eq_true, decide_eq_true_eq] at h
 exact ⟨h.1, h.2.1⟩
abbrev many' (n : Nat) : Nat := Proofs.YtcnlgbjkjlbmbaaGreat.many n
set_option maxRecDepth 100000 in
set_option maxHeartbeats 4000000 in
theorem lcommit_any (h : LgW w lb g z c s used many false) (hlb : ¬ P lb) (hd : DAt w B P g d) (hv : RcV w v r) (hvP : ∀ b, v.ownBlock = some b → ¬ P b) (hm : mayR r = true) (ht : mayT c (many : Int) = true) (hz : z ≤ 4000) (huz : used ≤ z) (hzd : z + 1 ≤ d.rd.length) (hN : ∀ j, (d.vs j).length ≤ 10000) :
 Calls Tryz.prog 83 #[.pointer (some ⟨lb, 0, none⟩), v] w fun e w' =>
  (z < used + (rowS c many r).length → e = .returned (.int .i64 8) ∧ Fr (fun _ => False) w w') ∧
  (used + (rowS c many r).length ≤ z → e = .returned (.int .i64 (if d.settles (1 + used) (rowS c many r) then 0 else 10)) ∧ (if d.settles (1 + used) (rowS c many r) then LgW w' lb g z c s (used + (rowS c many r).length) (many + 1) false else LgW w' lb g z c s used many true) ∧
    (∃ P', DAt w' B P' g (d.settle (1 + used) (rowS c many r)) ∧ ∀ b, P' b → P b ∨ w.heap.size ≤ b) ∧ Fr (fun b => P b ∨ b = lb) w w') := by
 have HN := Lib.hid (refuses_any h)
 have HB := Lib.hid (bytes_any hv)
 have hall := hv.all512
 obtain ⟨ss, hss⟩ : ∃ ss, ss = rowS c many r := ⟨_, rfl⟩
 obtain ⟨st, hst⟩ : ∃ st, st = d.settles (1 + used) (rowS c many r) := ⟨_, rfl⟩
 rw [← hst, ← hss]
 rw [← hss] at hst
 have hlen : (bytesR r).length ≤ 32768 := by rw [bytesR_len hall]; have := mayR_len hm; omega
 have HH := Lib.hid (And.intro h (And.intro hlb (And.intro hd (And.intro hvP (And.intro hm (And.intro ht (And.intro hzd (And.intro hN (And.intro hlen (And.intro hss hst))))))))))
 have hlt := h.lt
 clear h hlb hd hv hvP hm ht hzd hN hss hst hlen hall
 go_enter Tryz.func83, Tryz.ntmps83
 go_wp2_with (go_at_call 105; refine HN.out.mono ?_; rintro e w' ⟨rfl, rfl⟩)
 refine HB.out.mono ?_
 rintro e w1 ⟨_, g2, g3⟩
 obtain ⟨A, cb, rfl, hrd, hcb⟩ := g2 HH.out.2.2.2.2.1
 obtain ⟨nb, hnb⟩ : ∃ nb, nb = (bytesR r).length := ⟨_, rfl⟩
 rw [← hnb] at hrd ⊢
 have h1 := HH.out.1.keep g3 (fun q => q)
 have H1 := Lib.hid (And.intro g3 (And.intro hrd (And.intro h1 hnb)))
 clear g2 g3 hrd hcb h1 hnb HB HN
 go_wp2_with fail
 have HC : Hid (∀ w', Fr (fun _ => False) w1 w' → LgW w' lb g z c s used many false ∧ w'.cell? ⟨lb, 2, none⟩ = some (.int .u64 (c : Nat)) ∧ w'.cell? ⟨lb, 5, none⟩ = some (.int .i64 (many : Nat))) := Lib.hid fun w' f => by
  have q := H1.out.2.2.1.keep f (fun q => q)
  obtain ⟨⟨c0, c1, c2, c3, c4, c5, c6⟩, _⟩ := lg_cells q
  exact ⟨q, c2, c5⟩
 refine wp_region_held_drew (S := fun w' => Fr (fun _ => False) w1 w') (by kernel_rfl) ((Fr.refl _ _).drew) (fun hS0 => ?_)
 refine anyH_tk 0 24 (.pointer (some ⟨lb, 0, none⟩)) rfl rfl (.inl ⟨by rfl, fun w'' hS => by go_simp⟩) hS0 ?_
 (simp only [sA, sB, sC])
 refine anyH_tk 1 25 (.pointer (some ⟨lb, 0, none⟩)) rfl rfl (.inl ⟨by rfl, fun w'' hS => by go_simp⟩) hS0 ?_
 (simp only [sA, sB, sC])
 refine anyH_tk 2 26 (.pointer (some ⟨lb, 2, none⟩)) rfl rfl (.inl ⟨by rfl, fun w'' hS => by go_simp⟩) hS0 ?_
 (simp only [sA, sB, sC])
 refine anyH_tk 3 27 (.pointer (some ⟨lb, 2, none⟩)) rfl rfl (.inl ⟨by rfl, fun w'' hS => by go_simp⟩) hS0 ?_
 (simp only [sA, sB, sC])
 refine anyH_tk 4 28 (.int .u64 (c : Nat)) rfl rfl (.inl ⟨by rfl, fun w'' hS => by have q := HC.out w'' hS; have q0 := q.2.1; go_simp⟩) hS0 ?_
 (simp only [sA, sB, sC])
 refine anyH_tk 5 29 (.pointer (some ⟨lb, 0, none⟩)) rfl rfl (.inl ⟨by rfl, fun w'' hS => by go_simp⟩) hS0 ?_
 (simp only [sA, sB, sC])
 refine anyH_tk 6 30 (.pointer (some ⟨lb, 0, none⟩)) rfl rfl (.inl ⟨by rfl, fun w'' hS => by go_simp⟩) hS0 ?_
 (simp only [sA, sB, sC])
 refine anyH_tk 7 31 (.pointer (some ⟨lb, 5, none⟩)) rfl rfl (.inl ⟨by rfl, fun w'' hS => by go_simp⟩) hS0 ?_
 (simp only [sA, sB, sC])
 refine anyH_tk 8 32 (.int .i64 (many : Nat)) rfl rfl (.inl ⟨by rfl, fun w'' hS => by have q := HC.out w'' hS; have q0 := q.2.2; go_simp⟩) hS0 ?_
 (simp only [sA, sB, sC])
 refine anyH_tk 9 33 (.agg #[.int .u64 (c : Nat), .int .i64 (many : Nat)]) rfl rfl (.inl ⟨by rfl, fun w'' hS => by go_simp⟩) hS0 ?_
 (simp only [sA, sB, sC])
 refine anyH_tk 10 34 (.slice A nb cb) rfl rfl (.inl ⟨by rfl, fun w'' hS => by go_simp⟩) hS0 ?_
 (simp only [sA, sB, sC])
 refine anyH_enter 11 35 (f := 113) (args := #[.agg #[.int .u64 (c : Nat), .int .i64 (many : Nat)], .slice A nb cb]) (by kernel_rfl) rfl rfl (by rfl) (by go_simp) ?_
 refine (split_ok (H1.out.2.1.keep (F := fun _ => False) ((Fr.refl _ _).drew) (fun _ _ q => q)) (by rw [H1.out.2.2.2]; exact HH.out.2.2.2.2.2.2.2.2.1) c many HH.out.2.2.2.2.2.1).mono ?_
 rintro e w2 ⟨R, rfl, hR, hbR, hf2⟩
 have hS2 : Fr (fun _ => False) w1 w2 := Fr.trans hS0 hf2 (fun _ _ q => q)
 refine ⟨_, rfl, hS2, ?_⟩
 (simp only [sA, sB, sC])
 obtain ⟨K, hK⟩ : ∃ K, K = needN (nb : Nat) := ⟨_, rfl⟩
 rw [← hK]
 refine anyH_tk 12 23 (.tuple #[.slice (some ⟨R, 0, none⟩) K K, .int .i64 0]) rfl rfl (.inl ⟨by rfl, fun w'' hS => by go_simp⟩) hS2 ?_
 (simp only [sA, sB, sC])
 refine anyH_tk 13 36 (.slice (some ⟨R, 0, none⟩) K K) rfl rfl (.inl ⟨by rfl, fun w'' hS => by go_simp⟩) hS2 ?_
 (simp only [sA, sB, sC])
 refine anyH_tk 14 37 (.int .i64 0) rfl rfl (.inl ⟨by rfl, fun w'' hS => by go_simp⟩) hS2 ?_
 (simp only [sA, sB, sC])
 refine anyH_tk 15 8 (.slice (some ⟨R, 0, none⟩) K K) rfl rfl (.inl ⟨by rfl, fun w'' hS => by go_simp⟩) hS2 ?_
 (simp only [sA, sB, sC])
 refine anyH_tk 16 7 (.int .i64 0) rfl rfl (.inl ⟨by rfl, fun w'' hS => by go_simp⟩) hS2 ?_
 (simp only [sA, sB, sC])
 refine wpAnyH_done (by kernel_rfl) ?_ _
 have hKl : ss.length = K := by rw [HH.out.2.2.2.2.2.2.2.2.2.1, rowS_len, hK, H1.out.2.2.2]
 have hK9 : 1 ≤ K ∧ K ≤ 400 ∧ K = (many' nb + 1) / 2 := by
  have hb9 := HH.out.2.2.2.2.2.2.2.2.1
  rw [← H1.out.2.2.2] at hb9
  rw [hK]
  unfold needN many'
  rw [if_neg (by omega)]
  simp only [Int.toNat_natCast]
  have hmn : Proofs.YtcnlgbjkjlbmbaaGreat.many nb = (51 + nb) / 48 := rfl
  rw [hmn]
  refine ⟨by omega, by omega, trivial⟩
 have hsecs : SecV w2 (.slice (some ⟨R, 0, none⟩) K K) ss := by
  refine ⟨_, K, by rw [hKl], by omega, by simp only [maxLen]; omega, fun _ => ⟨R, 0, rfl, ?_⟩⟩
  rw [HH.out.2.2.2.2.2.2.2.2.2.1]
  have hb9 := hbR
  have e : (rowB c many (bytesR r)).length = K * 128 := by rw [rowB_len, hK9.2.2]; unfold many'; rw [H1.out.2.2.2]
  have q := secs_in hbR (N := K) e (K := K) (Nat.le_refl _)
  unfold rowS
  rw [← H1.out.2.2.2, ← hK]
  exact q
 have H2 := Lib.hid (And.intro hS2 (And.intro hsecs (And.intro hKl (And.intro hR (And.intro (HC.out w2 hS2).1 hK9)))))
 have hgt : ((K : Int) > ((z - used : Nat) : Int)) ↔ z < used + K := by omega
 clear hS0 hS2 hbR hsecs hR hKl hf2 hK hK9
 have HRM := Lib.hid (lroom_any H2.out.2.2.2.2.1 huz hz)
 by_cases hfull : z < used + K
 · have hg2 : ((z - used : Nat) : Int) < (K : Int) := by omega
   have HFU := Lib.hid hfull
   clear hgt hfull
   go_wp2_with fail
   refine HRM.out.mono ?_
   rintro e w3 ⟨rfl, rfl⟩
   go_wp2_with fail
   all_goals
    go_ret
    have hf3 : Fr (fun _ => False) w w2.drew := (H1.out.1.trans H2.out.1 (fun _ _ q => q)).drew
    exact ⟨fun _ => ⟨rfl, hf3⟩, fun q => by rw [H2.out.2.2.1] at q; have := HFU.out; omega⟩
 · have hg2 : ¬ ((z - used : Nat) : Int) < (K : Int) := by omega
   have HFU := Lib.hid hfull
   clear hgt hfull
   go_wp2_with fail
   refine HRM.out.mono ?_
   rintro e w3 ⟨rfl, rfl⟩
   have hf3 : Fr (fun _ => False) w w2.drew := (H1.out.1.trans H2.out.1 (fun _ _ q => q)).drew
   have fdr : Fr (fun _ => False) w2 w2.drew := (Fr.refl _ _).drew
   have hlg3 := H2.out.2.2.2.2.1.keep fdr (fun q => q)
   have hse3 := H2.out.2.1.new fdr
   have HS := Lib.hid (lsettle_any hlg3 HH.out.2.1 (HH.out.2.2.1.new hf3) (i := 1 + used) hse3 (fun b hb q => by
    injection hb with hb
    have h1 := (HH.out.2.2.1.2 b q).2
    have h2 := H1.out.1.size
    have h3 := H2.out.2.2.2.1
    have h4 : w1.drew.heap.size = w1.heap.size := rfl
    simp at hb
    omega) (by rw [H2.out.2.2.1]; have := HFU.out; have := HH.out.2.2.2.2.2.2.1; omega) HH.out.2.2.2.2.2.2.2.1)
   rw [← HH.out.2.2.2.2.2.2.2.2.2.2, Int.natCast_add] at HS
   obtain ⟨⟨c0, c1, c2, c3, c4, c5, c6⟩, _⟩ := lg_cells hlg3
   have HF3 := Lib.hid hf3
   clear hf3 fdr hse3 c0 c1 c2 c3 c5 c6 HRM
   have hwu : IntKind.i64.wrap (1 + (used : Int)) = 1 + (used : Int) := by simp [IntKind.wrap, IntKind.signed, IntKind.bits]; omega
   have hlo := H2.out.2.2.1
   have hm31 : many ≤ 2147483647 := by
    have := HH.out.2.2.2.2.2.1
    unfold mayT at this
    simp only [Bool.and_eq_true, decide_eq_true_eq] at this
    omega
   cases st with
   | false =>
     go_wp2_with fail
     refine HS.out.mono ?_
     rintro e w7 ⟨rfl, h7, ⟨P', h8, h9⟩, f7⟩
     have H7 := Lib.hid (And.intro h7 (And.intro h8 (And.intro h9 f7)))
     clear h7 h8 h9 f7 HS c4
     go_wp2_with fail
     go_ret
     refine ⟨fun q => absurd q HFU.out, fun _ => ⟨rfl, by simpa using H7.out.1, ⟨P', H7.out.2.1, fun b hb => (H7.out.2.2.1 b hb).imp id (fun q => Nat.le_trans HF3.out.size q)⟩, (HF3.out.mono (fun _ _ q => q.elim)).trans H7.out.2.2.2 (fun _ _ q => q)⟩⟩
   | true =>
     go_wp2_with fail
     refine HS.out.mono ?_
     rintro e w7 ⟨rfl, h7, ⟨P', h8, h9⟩, f7⟩
     obtain ⟨⟨d0, d1, d2, d3, d4, d5, d6⟩, hfz⟩ := lg_cells h7
     have z4 := hfz 4
     have z5 := hfz 5
     have H7 := Lib.hid (And.intro h7 (And.intro h8 (And.intro h9 f7)))
     clear h7 h8 h9 f7 HS hfz c4
     go_wp2_with fail
     go_ret
     have fB : ∀ u5 u4, Fr (fun b => b = lb) w7 ((w7.setCell ⟨lb, 5, none⟩ u5).setCell ⟨lb, 4, none⟩ u4) := fun u5 u4 =>
      ((Fr.refl (fun b => b = lb) w7).setCell (p := ⟨lb, 5, none⟩) (.inl rfl) u5).setCell (p := ⟨lb, 4, none⟩) (.inl rfl) u4
     refine ⟨fun q => absurd q HFU.out, fun _ => ⟨rfl, ?_, ⟨P', H7.out.2.1.keep (fB _ _) (fun b hb e => ?_), fun b hb => (H7.out.2.2.1 b hb).imp id (fun q => Nat.le_trans HF3.out.size q)⟩, ((HF3.out.mono (fun _ _ q => q.elim)).trans H7.out.2.2.2 (fun _ _ q => q)).trans (fB _ _) (fun _ _ q => .inr q)⟩⟩
     · have := (H7.out.1.set_ 5 (.int .i64 ((many : Int) + 1))).set_ 4 (.int .i64 ((used : Int) + (K : Int)))
       have e : logC g z c s (used + K) (many + 1) false = ((logC g z c s used many false).setIfInBounds 5 (.int .i64 ((many : Int) + 1))).setIfInBounds 4 (.int .i64 ((used : Int) + (K : Int))) := by simp [logC, Int.natCast_add]
       unfold LgW
       rw [e]
       simpa using this
     · rcases H7.out.2.2.1 b hb with q | q
       · exact HH.out.2.1 (e ▸ q)
       · have := HF3.out.size
         have h5 : w2.drew.heap.size = w2.heap.size := rfl
         omega
end
end Go.Proofs.YtcnlgbjkjlbmbaaGreat

namespace Go.Proofs.YtcnlgbjkjlbmbaaGreat
open Go.RowKit
attribute [local go_sem] Oper.semAt_some

def RcsV (w : World) (base : Nat) (v : Value) (rs : List (List Chg)) : Prop := ∃ vs : List Value, w.ownsRow base 77 1 v vs.length vs ∧ vs.length = rs.length ∧ ∀ (i : Nat) (u : Value) (r : List Chg), vs[i]? = some u → rs[i]? = some r → RcV w u r ∧ ∀ b, u.ownBlock = some b → base ≤ b ∧ ∃ cs, Blk w b 101 cs
set_option maxRecDepth 100000 in
theorem build_log (g z c s : Nat) (w : World) : (Instr.build 120 #[(0, .pointer (some ⟨g, 0, none⟩)), (1, .int .i64 (z : Nat)), (2, .agg #[.int .u64 (c : Nat), .int .u64 (s : Nat)])]).run Tryz.prog w = .ok (.agg (logC g z c s 0 0 false)) w := by kernel_rfl
set_option maxRecDepth 100000 in
set_option maxHeartbeats 4000000 in
theorem open_full {w : World} {B g z : Nat} {P : Nat → Prop} {d : DS} (h : DAt w B P g d) (h4 : 4 ≤ z) (hz : z ≤ 4000) (hzl : z + 1 ≤ d.rd.length) (hx : isHd d.head = true) (hm : cntOf d.head = maxC) : Calls Tryz.prog 44 #[.pointer (some ⟨g, 0, none⟩), .int .i64 z] w fun e w' =>
 e = .returned (.tuple #[.pointer none, .slice none 0 0, .int .i64 8]) ∧ Fr (fun _ => False) w w' := by
 have HT := Lib.hid (fits_any h (z : Int) (by omega) (by omega))
 rw [show fitE d.rd.length (z : Int) = 0 by unfold fitE; rw [if_neg (by omega)]] at HT
 have HR := Lib.hid (wread_any h (N := z + 1) (by omega) hzl)
 have hxl : d.head.length = 128 := h.get128 (i := 0) (by omega)
 have hvl : hdVal d.head = hV (cntOf d.head) (sinOf d.head) := by simp [hdVal, hx]
 have HW := Lib.hid fun w => whd_any w d.head hxl
 rw [hvl, hx] at HW
 have hd0 : (d.rd.take (z + 1))[0]? = some d.head := by
  unfold DS.head
  rw [List.getElem?_take, if_pos (by omega)]
  simp [show 0 < d.rd.length by omega]
 have hln : (d.rd.take (z + 1)).length = z + 1 := by rw [List.length_take]; omega
 obtain ⟨cc, hcc⟩ : ∃ cc, cc = cntOf d.head := ⟨_, rfl⟩
 obtain ⟨si, hsi⟩ : ∃ si, si = sinOf d.head := ⟨_, rfl⟩
 rw [← hcc, ← hsi] at HW
 rw [← hcc] at hm
 have HH := Lib.hid (And.intro hd0 (And.intro hln (And.intro hxl hm)))
 clear h h4 hzl hx hm hvl hd0 hln hcc hsi hxl
 have e1 : (1 : Int) + (z : Int) = ((z + 1 : Nat) : Int) := by omega
 rw [Int.natCast_add] at HR
 have e2 : ((z : Int) + ((1 : Nat) : Int)) = 1 + (z : Int) := by omega
 rw [e2] at HR
 clear e1 e2
 go_enter Tryz.func44, Tryz.ntmps44
 go_wp2_with fail
 refine HT.out.mono ?_
 rintro e w1 ⟨rfl, rfl⟩
 clear HT
 go_wp2_with fail
 refine HR.out.mono ?_
 rintro e w1 ⟨v, rfl, hv, _, hf1⟩
 obtain ⟨A, cap, rfl, hc1, hc2, h3⟩ := hv
 obtain ⟨b, off, rfl, hsec⟩ := h3 (by rw [HH.out.2.1]; omega)
 have hr0 := (hsec 0 _ HH.out.1).2
 rw [Nat.zero_mul, Nat.add_zero] at hr0
 rw [HH.out.2.1]
 have hz0 : (0 : Int) < ((z + 1 : Nat) : Int) := by omega
 have H1 := Lib.hid (And.intro hr0 hf1)
 clear h3 hsec hr0 hf1 hc1 hc2 HR
 go_wp2_with (first
  | (refine wpList_load_mid rfl 83 _ rfl b off rfl (cellsB d.head) _ H1.out.1 Tryz.underlying83 rfl (by rw [infoSector, cellsB_len, HH.out.2.2.1]) ?_))
 refine (HW.out _).mono ?_
 rintro e w2 ⟨rfl, hf2⟩
 have HF2 := Lib.hid (H1.out.2.trans hf2 (fun _ _ q => q))
 clear hf2 HW hz0
 go_wp2_with fail
 have hnx := next_full (w2.alloc (.cells #[.int .u64 (cc : Nat), .int .u64 (si : Nat)] 114)) si
 rw [← HH.out.2.2.2] at hnx
 refine hnx.mono ?_
 rintro e w3 ⟨rfl, hf3⟩
 have HF3 := Lib.hid ((HF2.out.alloc (.cells #[.int .u64 (cc : Nat), .int .u64 (si : Nat)] 114)).trans hf3 (fun _ _ q => q))
 clear hf3 hnx
 go_wp2_with fail
 refine bodyPost_ret (results_tmp3 rfl _ _ _) rfl ?_
 exact ⟨rfl, HF3.out.alloc _⟩
end Go.Proofs.YtcnlgbjkjlbmbaaGreat

namespace Go.Proofs.YtcnlgbjkjlbmbaaGreat
open Go.RowKit
attribute [local go_sem] Oper.semAt_some

def usedOf (rs : List (List Chg × Nat)) : Nat := (rs.map (·.2)).sum
def OpenR (w : World) (B g z c s : Nat) (P : Nat → Prop) (d : DS) (rs : List (List Chg × Nat)) (e : Ending) (w' : World) : Prop :=
 (d.settles 0 [hdS (c + 1) s] = false → e = .returned (.tuple #[.pointer none, .slice none 0 0, .int .i64 10])) ∧
 (d.settles 0 [hdS (c + 1) s] = true → ∃ lb v, e = .returned (.tuple #[.pointer (some ⟨lb, 0, none⟩), v, .int .i64 0]) ∧ w.heap.size ≤ lb ∧ LgW w' lb g z (c + 1) s (usedOf rs) rs.length false ∧ RcsV w' w.heap.size v (rs.map (·.1))) ∧
 (∃ P', DAt w' B P' g (d.settle 0 [hdS (c + 1) s]) ∧ (∀ b, P' b → P b ∨ w.heap.size ≤ b) ∧ (∀ lb v, e = .returned (.tuple #[.pointer (some ⟨lb, 0, none⟩), v, .int .i64 0]) → ¬ P' lb)) ∧ Fr P w w'
set_option maxRecDepth 100000 in
theorem run_load_flat {o : Oper} {a : Act} {w : World} {b c s : Nat} {x : Operand} (q : Blk w b 114 #[.int .u64 (c : Nat), .int .u64 (s : Nat)]) (ho : o.op = .load 114 x) (hx : a.eval x = .pointer (some ⟨b, 0, none⟩)) : (execOp a.eval o).run Tryz.prog w = .ok (.value (hV c s)) w := by
 have e := run_loadVar_row (P := Tryz.prog) w b 114 114 #[.int .u64 (c : Nat), .int .u64 (s : Nat)] (0, 0) _ q Tryz.underlying114 rfl infoHd2
 unfold execOp
 simp only [ho, hx, Instr.loadAt, Instr.sureAddr, Sem.run_bind, Sem.run_pure, Result.andThen_ok, e]
set_option maxRecDepth 100000 in
theorem own_less {w : World} {base base' e size n : Nat} {v : Value} {xs : List Value} (h : w.ownsRow base e size v n xs) (hb : base' ≤ base) : w.ownsRow base' e size v n xs := by
 obtain ⟨h1, h | ⟨b, c, cs, e1, h2, h3⟩⟩ := h
 · exact ⟨h1, .inl h⟩
 · exact ⟨h1, .inr ⟨b, c, cs, e1, Nat.le_trans hb h2, h3⟩⟩
set_option maxRecDepth 100000 in
theorem infoRec : (Tryz.prog.info? 77).map (fun i => (i.zero, i.size, i.bytes)) = some (some (.slice none 0 0), 1, 24) := by kernel_rfl
set_option maxRecDepth 100000 in
theorem slice_of_rec (A : Option Addr) (n c : Nat) (w : World) : (Instr.buildSlice 86 1 #[(0, .slice A n c)]).run Tryz.prog w = .ok (.slice (some ⟨w.heap.size, 0, none⟩) 1 1) (w.alloc (.cells #[.slice A n c] 77)) := by
 obtain ⟨i0, hi, hz0, hz1, hz2⟩ := info_parts infoRec
 refine run_buildSlice w 86 77 1 _ _ i0 _ Tryz.underlying86 hi hz0 (by rw [hz1]; omega) (by rw [hz1]; omega) ?_
 rw [hz1]
 have hb : ((Array.range (1 * 1)).map ((Value.slice none 0 0).cells[· % (Value.slice none 0 0).cells.size]!)) = #[Value.slice none 0 0] := by
  apply Array.ext
  · simp
  · intro i h1 h2
    simp at h1
    simp [Value.cells, h1]
 rw [hb]
 simp [Instr.fill, Value.cells]
section
variable {ops : Array Oper} {rest : List Oper} {o : Oper} {a : Act} {w : World} {Q : Exit → Act → World → Prop} {F : Fence} {n : Nat}
set_option maxRecDepth 100000 in
theorem wpListIn_build_rec (hg : o.guard = none) (x : Operand) (hop : o.op = .buildSlice 86 1 #[(0, x)]) {A : Option Addr} {k c : Nat} (hx : a.eval x = .slice A k c)
 (hK : wpListIn F n Tryz.prog ops Q rest (a.put o.dst (.slice (some ⟨w.heap.size, 0, none⟩) 1 1)) (w.alloc (.cells #[.slice A k c] 77))) : wpListIn F n Tryz.prog ops Q (o :: rest) a w := by
 refine wpListIn_plain hg fun K hK' => ?_
 have hr := slice_of_rec A k c w
 have hs : o.semAt F.round a.eval = execOp a.eval o := Oper.semAt_plain F _ _ (fun c h => by rw [hop] at h; cases h)
 unfold Oper.wpIn
 rw [hs]
 unfold execOp
 simp only [hop, Array.map, hx]
 refine ⟨fun f hf => by simp [Oper.about, hop] at hf, ?_⟩
 simp [hr, hx, Result.andThen, Oper.uponIn]
 exact hK' _ _ hK
end
set_option maxRecDepth 100000 in
set_option maxHeartbeats 8000000 in
theorem open_go {w : World} {B g z : Nat} {P : Nat → Prop} {d : DS} (h : DAt w B P g d) (h4 : 4 ≤ z) (hz : z ≤ 4000) (hzl : z + 1 ≤ d.rd.length) (hx : isHd d.head = true) (hm : cntOf d.head < maxC) (hN : ∀ j, (d.vs j).length ≤ 10000) : Calls Tryz.prog 44 #[.pointer (some ⟨g, 0, none⟩), .int .i64 z] w
 (OpenR w B g z (cntOf d.head) (sinOf d.head) P d (recs (cntOf d.head) (sinOf d.head) ((d.rd.take (z + 1)).drop 1))) := by
 have HT := Lib.hid (fits_any h (z : Int) (by omega) (by omega))
 rw [show fitE d.rd.length (z : Int) = 0 by unfold fitE; rw [if_neg (by omega)]] at HT
 have HR := Lib.hid (wread_any h (N := z + 1) (by omega) hzl)
 have hxl : d.head.length = 128 := h.get128 (i := 0) (by omega)
 have hvl : hdVal d.head = hV (cntOf d.head) (sinOf d.head) := by simp [hdVal, hx]
 have HW := Lib.hid fun w => whd_any w d.head hxl
 rw [hvl, hx] at HW
 have hd0 : (d.rd.take (z + 1))[0]? = some d.head := by
  unfold DS.head
  rw [List.getElem?_take, if_pos (by omega)]
  simp [show 0 < d.rd.length by omega]
 have hln : (d.rd.take (z + 1)).length = z + 1 := by rw [List.length_take]; omega
 have hle := isHd_le hx
 obtain ⟨cc, hcc⟩ : ∃ cc, cc = cntOf d.head := ⟨_, rfl⟩
 obtain ⟨si, hsi⟩ : ∃ si, si = sinOf d.head := ⟨_, rfl⟩
 rw [← hcc, ← hsi] at HW hle
 rw [← hcc] at hm
 rw [← hcc, ← hsi]
 obtain ⟨rs, hrs⟩ : ∃ rs, rs = recs cc si ((d.rd.take (z + 1)).drop 1) := ⟨_, rfl⟩
 rw [← hrs]
 have HH := Lib.hid (And.intro hd0 (And.intro hln (And.intro hxl (And.intro hm (And.intro hle (And.intro h (And.intro hN (And.intro hrs hzl))))))))
 clear h h4 hzl hx hm hvl hd0 hln hcc hsi hxl hle hN hrs
 rw [Int.natCast_add] at HR
 have e2 : ((z : Int) + ((1 : Nat) : Int)) = 1 + (z : Int) := by omega
 rw [e2] at HR
 clear e2
 refine callsIn_wide (n := 10).1 ?_
 refine callsIn_of_wp_marks Tryz.func44 rfl trivial ?_ rfl
 simp only [Tryz.ntmps44, List.size_toArray, List.length_cons, List.length_nil, Nat.reduceAdd, Nat.reduceSub, Array.replicate_succ, Array.replicate_zero, List.push_toArray, List.append_toArray, List.nil_append, List.cons_append]
 gi_wp2
 refine ⟨trivial, (callsIn_wide.2 HT.out).mono ?_⟩
 rintro e w1 ⟨rfl, rfl⟩
 clear HT
 gi_wp2
 refine ⟨trivial, (callsIn_wide.2 HR.out).mono ?_⟩
 rintro e w1 ⟨v, rfl, hv, hvb, hf1⟩
 obtain ⟨A, cap, rfl, hc1, hc2, h3⟩ := hv
 obtain ⟨b, off, rfl, hsec⟩ := h3 (by rw [HH.out.2.1]; omega)
 have hr0 := (hsec 0 _ HH.out.1).2
 rw [Nat.zero_mul, Nat.add_zero] at hr0
 have hlv := HH.out.2.1
 rw [hlv]
 have hz0 : (0 : Int) < ((z + 1 : Nat) : Int) := by omega
 have hsv : SecV w1 (.slice (some ⟨b, off, none⟩) (z + 1) cap) (d.rd.take (z + 1)) := ⟨_, cap, by rw [hlv], hc1, hc2, fun _ => ⟨b, off, rfl, hsec⟩⟩
 have H1 := Lib.hid (And.intro hr0 (And.intro hf1 (And.intro hsv (hvb b rfl))))
 clear h3 hsec hr0 hf1 hc1 hc2 HR hsv hvb
 gi_wp2_with (first
  | (refine wpListIn_load_mid rfl 83 _ rfl b off rfl (cellsB d.head) _ H1.out.1 Tryz.underlying83 rfl (by rw [infoSector, cellsB_len, HH.out.2.2.1]) ?_))
 refine ⟨trivial, (callsIn_wide.2 (HW.out _)).mono ?_⟩
 rintro e w2 ⟨rfl, hf2⟩
 have hb10 := Blk.new w2 114 #[.int .u64 (cc : Nat), .int .u64 (si : Nat)]
 have HF2 := Lib.hid (H1.out.2.1.trans hf2 (fun _ _ q => q))
 have hz12 := hf2.size
 have HS2 := Lib.hid (H1.out.2.2.1.new hf2)
 clear hf2 HW hz0
 gi_wp2
 refine ⟨trivial, (callsIn_wide.2 (next_any (w2.alloc (.cells #[.int .u64 (cc : Nat), .int .u64 (si : Nat)] 114)) cc si HH.out.2.2.2.1 (Nat.le_trans HH.out.2.2.2.2.1.2.1 HH.out.2.2.2.2.1.2.2))).mono ?_⟩
 rintro e w3 ⟨rfl, hf3⟩
 have hb10' := hb10.keep hf3 (fun q => q)
 have HF3 := Lib.hid (And.intro ((HF2.out.alloc (.cells #[.int .u64 (cc : Nat), .int .u64 (si : Nat)] 114)).trans hf3 (fun _ _ q => q)) (And.intro (HS2.out.new (((Fr.refl _ w2).alloc _).trans hf3 (fun _ _ q => q))) hb10'))
 have hg2 : w.heap.size ≤ w2.heap.size := HF2.out.size
 have hW13 : w1.heap.size ≤ w3.heap.size := by
  have q := hf3.size
  simp at q
  omega
 have hg10 : w2.heap.size < w3.heap.size := by
  have q := hf3.size
  simp at q
  omega
 have hbl := build_log g z (cc + 1) si
 clear hf3 hb10 hb10' HS2
 gi_wp2
 obtain ⟨W, hW, k12, klb, k13, k14, hszW, hfW⟩ := alloc4 w3 #[.int .u64 ((cc : Int) + 1), .int .u64 (si : Nat)] (logC g z (cc + 1) si 0 0 false) #[.pointer (some ⟨w3.heap.size + 1, 0, none⟩)] #[.slice none 0 0] 114 120 61 86
 have hW' : (((w3.alloc (.cells #[.int .u64 ((cc : Int) + 1), .int .u64 (si : Nat)] 114)).alloc (.cells #[.pointer (some ⟨g, 0, none⟩), .int .i64 (z : Nat), .int .u64 ((cc : Int) + 1), .int .u64 (si : Nat), .int .i64 0, .int .i64 0, .bool false] 120)).alloc (.cells #[.pointer (some ⟨w3.heap.size + 1, 0, none⟩)] 61)).alloc (.cells #[.slice none 0 0] 86) = W := by rw [hW]; rfl
 rw [hW']
 have hs2 := HF3.out.2.1.new hfW
 obtain ⟨A', hsl, hs3, hs4⟩ := slice_secV hs2 1 (by rw [HH.out.2.1]; omega)
 have hsl' : ∀ W, (Instr.slice 71 (.slice (some ⟨b, off, none⟩) (z + 1) cap) (some (.int .i64 1)) none none).run Tryz.prog W = .ok (.slice A' (z + 1 - 1) (cap - 1)) W := hsl
 have hb10 := HF3.out.2.2.keep hfW (fun q => q)
 have hb9 : b < w1.heap.size := by
  obtain ⟨c0, hc0⟩ : ∃ c0, (cellsB d.head)[0]? = some c0 := ⟨_, List.getElem?_eq_getElem (by rw [cellsB_len, HH.out.2.2.1]; omega)⟩
  exact World.block_lt_of_cell? w1 _ (H1.out.1 0 c0 hc0)
 have HW := Lib.hid (And.intro k12 (And.intro klb (And.intro k13 (And.intro k14 (And.intro hszW (And.intro (HF3.out.1.trans hfW (fun _ _ q => q)) (And.intro hs3 (And.intro hb10 (And.intro hs4 hb9)))))))))
 clear k12 klb k13 k14 hszW hfW hs2 hs3 hb10 hs4 hb9 hW hW' hbl HF2 hsl
 obtain ⟨X0, hX0, kh, kl, hszX, hfX⟩ := alloc2 W.drew #[.int .u64 (cc : Nat), .int .u64 (si : Nat)] #[.slice A' (z + 1 - 1) (cap - 1)] 114 71
 refine wpIn_wide.2 (wp_region_noPanic ?_)
 refine wp_region_held_drew (S := fun w' => Fr (fun _ => False) W w') (by kernel_rfl) ((Fr.refl _ _).drew) (fun hS0 => ?_)
 refine anyH_tk 0 56 (hV cc si) rfl rfl (.inl ⟨by rfl, fun w'' hS => run_load_flat (HW.out.2.2.2.2.2.2.2.1.keep hS (fun q => q)) rfl rfl⟩) hS0 ?_
 (simp only [sA, sB, sC])
 refine anyH_tk 1 57 (.slice (some ⟨b, off, none⟩) (z + 1) cap) rfl rfl (.inl ⟨by rfl, fun w'' hS => by go_simp⟩) hS0 ?_
 (simp only [sA, sB, sC])
 refine anyH_tk 2 58 (.slice A' (z + 1 - 1) (cap - 1)) rfl rfl (.inl ⟨by rfl, fun w'' hS => by have q := hsl' w''; go_simp⟩) hS0 ?_
 (simp only [sA, sB, sC])
 refine anyH_enter 3 59 (f := 74) (args := #[hV cc si, .slice A' (z + 1 - 1) (cap - 1)]) (by kernel_rfl) rfl rfl (by rfl) (by go_simp) ?_
 refine (records_any _ cc si A' _ _).mono ?_
 rintro e w9 ⟨rfl, rfl⟩
 rw [← hX0]
 refine ⟨_, rfl, Fr.trans hS0 hfX (fun _ _ q => q), ?_⟩
 (simp only [sA, sB, sC])
 refine wpAnyH_done (by kernel_rfl) ?_ _
 refine NoPanic.normal ?_
 have hdr : W.drew.heap.size = W.heap.size := rfl
 rw [hdr] at kh kl hszX ⊢
 have HX := Lib.hid (And.intro kh (And.intro kl (And.intro hszX (Fr.trans hS0 hfX (fun _ _ q => q)))))
 clear kh kl hszX hfX hX0 hS0 hdr hsl'
 gi_wp2
 have hDD : X0.heap.size = w3.heap.size + 6 := by have := HX.out.2.2.1; have := HW.out.2.2.2.2.1; omega
 have hw3 : w.heap.size ≤ w3.heap.size := HF3.out.1.size
 have HFX := Lib.hid (HW.out.2.2.2.2.2.1.trans HX.out.2.2.2 (fun _ _ q => q))
 have HI0 := Lib.hid (And.intro (HW.out.1.keep HX.out.2.2.2 (fun q => q)) (And.intro (HW.out.2.1.keep HX.out.2.2.2 (fun q => q)) (And.intro (HW.out.2.2.1.keep HX.out.2.2.2 (fun q => q)) (HW.out.2.2.2.1.keep HX.out.2.2.2 (fun q => q)))))
 obtain ⟨ss, hss⟩ : ∃ ss, ss = (d.rd.take (z + 1)).drop 1 := ⟨_, rfl⟩
 have hsl : ss.length = z := by rw [hss, List.length_drop, HH.out.2.1]; omega
 have hsv := HW.out.2.2.2.2.2.2.1.new HX.out.2.2.2
 rw [← hss] at hsv
 have HSS := Lib.hid (And.intro hss (And.intro hsl hsv))
 clear hss hsl hsv
 refine range_told_f rfl (by omega) (gf := 101) (lb := #[.pointer (some ⟨W.heap.size + 1, 0, none⟩), .pointer (some ⟨W.heap.size, 0, none⟩)]) rfl trivial (enters_of Tryz.func101 (by kernel_rfl) rfl) (encs := encR) (fun _ => rfl)
  (fun xs X => LgW X (w3.heap.size + 1) g z (cc + 1) si (xs.map (·.k)).sum xs.length false ∧ Blk X (w3.heap.size + 1 + 1) 61 #[.pointer (some ⟨w3.heap.size + 1, 0, none⟩)] ∧ Blk X w3.heap.size 114 #[.int .u64 ((cc : Int) + 1), .int .u64 (si : Nat)] ∧
    (∃ v, Blk X (w3.heap.size + 1 + 1 + 1) 86 #[v] ∧ X.ownsRow (X0.heap.size + 2) 77 1 v xs.length (xs.map (·.v))) ∧ (∀ x ∈ xs, x.Is (X0.heap.size + 2) X) ∧ Fr (fun _ => False) w X)
  (fun pre x X => x.Is (X0.heap.size + 2) X ∧ pre.length ≤ 8192 ∧ (pre.map (·.k)).sum + x.k ≤ 8192)
  (fun xs => xs.map (fun x => (x.r, x.k)) = recs cc si ss)
  (fun k => k = w3.heap.size + 1 + 1 + 1 ∨ k = w3.heap.size + 1 ∨ X0.heap.size + 2 ≤ k) (by omega) (by omega)
  (fun x T => (((T.setIfInBounds 60 x.v).setIfInBounds 61 (.int .i64 (x.k : Nat))).setIfInBounds 15 x.v).setIfInBounds 16 (.int .i64 (x.k : Nat)))
  (fun xs X Y hi f => by
    obtain ⟨h1, h2, h3, ⟨v, h4, h5⟩, h6, h7⟩ := hi
    exact ⟨h1.keep f (by omega), h2.keep f (by omega), h3.keep f (by omega), ⟨v, h4.keep f (by omega), own_keep h5 f (fun k hk e => by have := own_low h5 hk; omega)⟩, fun x hx => (h6 x hx).keep f (fun b' hb' e => by have := ((h6 x hx).2 b' hb').1; omega), h7.trans f (fun i hi q => by omega)⟩)
  (fun pre x X Y he f => ⟨he.1.keep f (fun b' hb' e => by have := (he.1.2 b' hb').1; omega), he.2⟩)
  ⟨HI0.out.2.1, HI0.out.2.2.1, HI0.out.1, ⟨_, HI0.out.2.2.2, World.ownsRow_nil _ _ _ _⟩, (fun x hx => by cases hx), HFX.out⟩
  ?seq ?assign ?body ?done
 case seq =>
  intro J Y hfY hsY hJ hY h0
  have q1 := (HX.out.2.1.keep hfY (fun q => q)).cell 0
  have q2 := (HX.out.1.keep hfY (fun q => q)).cell 0
  have q3 := (HX.out.1.keep hfY (fun q => q)).cell 1
  have hWX := HX.out.2.2.1
  refine records1_in (fun k => k = w3.heap.size + 1 + 1 + 1 ∨ k = w3.heap.size + 1 ∨ X0.heap.size + 2 ≤ k) (X0.heap.size + 1) (W.heap.size + 1) W.heap.size cc si (X0.heap.size + 2) (fun b' hb' q => ?_) (by omega) (by omega) (by simpa using q1) (by simpa using q2) (by simpa using q3) (HSS.out.2.2.new hfY) (by rw [HSS.out.2.1]; omega) hsY J hJ hY h0
  have h8 := HW.out.2.2.2.2.2.2.2.2.1 b' hb'
  injection h8 with h8
  have h9 := HW.out.2.2.2.2.2.2.2.2.2
  simp at h8
  omega
 case assign =>
  intro x Y K hK
  simp only [encR, List.zip_toArray, List.zip_cons_cons, List.zip_nil_right, List.foldl_toArray, List.foldl_cons, List.foldl_nil, List.setIfInBounds_toArray, List.set_cons_succ, List.set_cons_zero] at hK ⊢
  gi_wp2
  exact hK
 case body =>
  rintro pre ⟨vx, rx, kx⟩ Y ⟨h1, h2, h3, ⟨v, h4, h5⟩, h6, h7⟩ ⟨he, hp1, hp2⟩ hlt
  simp only [List.setIfInBounds_toArray, List.set_cons_succ, List.set_cons_zero]
  obtain ⟨Av, cv, evx, ev1, ev2, ev3⟩ := he.1
  simp only at evx
  subst evx
  have c14 := h4.cell 0
  have c13 := h2.cell 0
  simp at c14 c13
  obtain ⟨i0, hi, hz0, hz1, hz2⟩ := info_parts infoRec
  have hfs : Fr (fun _ => False) Y (Y.alloc (.cells #[.slice Av rx.length cv] 77)) := (Fr.refl _ Y).alloc _
  have hns : ∀ j u, ([Value.slice Av rx.length cv] : List Value)[j]? = some u → (Y.alloc (.cells #[.slice Av rx.length cv] 77)).cell? ((⟨Y.heap.size, 0, none⟩ : Addr).add j) = some u := fun j u hj => by
   rw [Addr.add_mid, (Blk.new Y 77 #[.slice Av rx.length cv]).cell]
   simpa using hj
  have HAP := Lib.hid (And.intro (own_keep h5 hfs (fun _ _ q => q)) (And.intro hns (And.intro hz0 (And.intro hz1 (And.intro hz2 (And.intro hi (And.intro hfs (And.intro hp1 hp2))))))))
  have HI := Lib.hid (And.intro h1 (And.intro h2 (And.intro h3 (And.intro h4 (And.intro h5 (And.intro h6 (And.intro h7 he)))))))
  have hused : (pre.map (·.k)).sum + kx ≤ 8192 := hp2
  obtain ⟨us, hus⟩ : ∃ us, us = (pre.map (·.k)).sum := ⟨_, rfl⟩
  obtain ⟨mn, hmn⟩ : ∃ mn, mn = pre.length := ⟨_, rfl⟩
  have hmn9 : mn ≤ 8192 := by omega
  rw [← hus] at hused
  have HUM := Lib.hid (And.intro hus hmn)
  clear h1 h2 h3 h4 h5 h6 h7 he hns hfs hz0 hz1 hz2 hi hp1 hp2 ev1 ev2 ev3 hus hmn
  gi_wp2_with (first
   | (refine wpListIn_build_rec rfl (.tmp 63) rfl rfl ?_)
   | (refine wpListIn_append_own_at _ rfl (.tmp 62) (.tmp 64) 86 rfl (X0.heap.size + 2) 77 i0 (.slice none 0 0) 1 24 Tryz.underlying86 HAP.out.2.2.2.2.2.1 HAP.out.2.2.1 HAP.out.2.2.2.1 HAP.out.2.2.2.2.1 rfl (by omega) v pre.length (pre.map (·.v)) rfl HAP.out.1 ⟨Y.heap.size, 0, none⟩ 1 1 [.slice Av rx.length cv] rfl rfl HAP.out.2.1 (fun u hu => by rw [List.mem_singleton.1 hu]; rfl) (by have := HAP.out.2.2.2.2.2.2.2.1; simp only [maxLen]; omega) (by have := HAP.out.2.2.2.2.2.2.2.1; omega) (by simp; omega) ?_
      intro v' Y3 ho3 hg3 _ hat3
      obtain ⟨A3, n3, c3, rfl⟩ := own_form ho3
      have fA : Fr (fun j => v.ownBlock = some j) (Y.alloc (.cells #[.slice Av rx.length cv] 77)) Y3 := (Fr.refl (fun j => v.ownBlock = some j) _).grown hg3 (fun j e => .inl e)
      have fY : Fr (fun j => v.ownBlock = some j) Y Y3 := (HAP.out.2.2.2.2.2.2.1.mono (fun _ _ q => q.elim)).trans fA (fun _ _ q => q)
      have b14 := HI.out.2.2.2.1.keep fY (own_ne HI.out.2.2.2.2.1 HI.out.2.2.2.1 (by decide))
      have b13 := HI.out.2.1.keep fY (own_ne HI.out.2.2.2.2.1 HI.out.2.1 (by decide))
      have blb := HI.out.1.keep fY (own_ne HI.out.2.2.2.2.1 HI.out.1 (by decide))
      have H3 := Lib.hid (And.intro ho3 (And.intro fY (And.intro b14 (And.intro b13 blb))))
      have d14 := b14.cell 0
      have g14 := b14.frozen 0
      have d13 := b13.cell 0
      obtain ⟨⟨_, _, _, _, d4, d5, _⟩, hfz⟩ := lg_cells blb
      rw [← HUM.out.1] at d4
      rw [← HUM.out.2] at d5
      have z4 := hfz 4
      have z5 := hfz 5
      simp at d14 d13
      clear ho3 hg3 hat3 fA fY b14 b13 blb hfz c14 c13))
  have e8 : w3.heap.size + 6 + 2 = X0.heap.size + 2 := by omega
  rw [e8]
  have hv8 : ∀ k, v.ownBlock = some k → X0.heap.size + 2 ≤ k := fun k hk => own_low HI.out.2.2.2.2.1 hk
  obtain ⟨Z, hZ⟩ : ∃ Z, Z = ((Y3.setCell ⟨w3.heap.size + 1 + 1 + 1, 0, none⟩ (.slice A3 n3 c3)).setCell ⟨w3.heap.size + 1, 5, none⟩ (.int .i64 ((mn : Int) + 1))).setCell ⟨w3.heap.size + 1, 4, none⟩ (.int .i64 ((us : Int) + (kx : Int))) := ⟨_, rfl⟩
  have fB : Fr (fun k => k = w3.heap.size + 1 + 1 + 1 ∨ k = w3.heap.size + 1) Y3 Z := by
   rw [hZ]
   exact ((Fr.refl (fun k => k = w3.heap.size + 1 + 1 + 1 ∨ k = w3.heap.size + 1) Y3).setCell (p := ⟨w3.heap.size + 1 + 1 + 1, 0, none⟩) (.inl (.inl rfl)) _).setCell (p := ⟨w3.heap.size + 1, 5, none⟩) (.inl (.inr rfl)) _ |>.setCell (p := ⟨w3.heap.size + 1, 4, none⟩) (.inl (.inr rfl)) _
  have fZ : Fr (fun k => k = w3.heap.size + 1 + 1 + 1 ∨ k = w3.heap.size + 1 ∨ v.ownBlock = some k) Y Z := (H3.out.2.1.mono (fun _ _ q => .inr (.inr q))).trans fB (fun k _ q => by rcases q with q | q; exact .inl q; exact .inr (.inl q))
  have zlg : LgW Z (w3.heap.size + 1) g z (cc + 1) si ((pre.map (·.k)).sum + kx) (pre.length + 1) false := by
   have f14 := (Fr.refl (fun k => k = w3.heap.size + 1 + 1 + 1) Y3).setCell (p := ⟨w3.heap.size + 1 + 1 + 1, 0, none⟩) (.inl rfl) (.slice A3 n3 c3)
   have q := ((H3.out.2.2.2.2.keep f14 (by omega)).set_ 5 (.int .i64 ((mn : Int) + 1))).set_ 4 (.int .i64 ((us : Int) + (kx : Int)))
   rw [← hZ] at q
   have e : logC g z (cc + 1) si ((pre.map (·.k)).sum + kx) (pre.length + 1) false = ((logC g z (cc + 1) si (pre.map (·.k)).sum pre.length false).setIfInBounds 5 (.int .i64 ((mn : Int) + 1))).setIfInBounds 4 (.int .i64 ((us : Int) + (kx : Int))) := by
    rw [HUM.out.1, HUM.out.2]
    simp [logC, Int.natCast_add]
   unfold LgW
   rw [e]
   exact q
  have z14 : Blk Z (w3.heap.size + 1 + 1 + 1) 86 #[.slice A3 n3 c3] := by
   have q := (H3.out.2.2.1.set_ 0 (.slice A3 n3 c3)).keep (((Fr.refl (fun k => k = w3.heap.size + 1) (Y3.setCell ⟨w3.heap.size + 1 + 1 + 1, 0, none⟩ (.slice A3 n3 c3))).setCell (p := ⟨w3.heap.size + 1, 5, none⟩) (.inl rfl) (.int .i64 ((mn : Int) + 1))).setCell (p := ⟨w3.heap.size + 1, 4, none⟩) (.inl rfl) (.int .i64 ((us : Int) + (kx : Int)))) (by omega)
   rw [← hZ] at q
   exact q
  rw [← hZ]
  refine ⟨fZ.mono (fun k _ q => ?_), zlg, H3.out.2.2.2.1.keep fB (by omega), HI.out.2.2.1.keep fZ (fun q => ?_), ⟨_, z14, own_keep H3.out.1 fB (fun k hk q => ?_)⟩, fun x hx => ?_, HI.out.2.2.2.2.2.2.1.trans fZ (fun i hi q => ?_)⟩
  · rcases q with q | q | q
    · exact .inl q
    · exact .inr (.inl q)
    · exact .inr (.inr (by have := hv8 k q; omega))
  · rcases q with q | q | q
    · omega
    · omega
    · have := hv8 _ q
      omega
  · rcases q with q | q
    · exact own_ne H3.out.1 H3.out.2.2.1 (by decide) (by rw [hk, q])
    · exact own_ne H3.out.1 H3.out.2.2.2.2 (by decide) (by rw [hk, q])
  · have hxi : x.Is (X0.heap.size + 2) Y := by
     rcases hx with q | q
     · exact HI.out.2.2.2.2.2.1 x q
     · rw [q]
       exact HI.out.2.2.2.2.2.2.2
    refine hxi.keep fZ (fun b' hb' q => ?_)
    obtain ⟨q1, cs1, q2⟩ := hxi.2 b' hb'
    rcases q with q | q | q
    · omega
    · omega
    · exact own_ne HI.out.2.2.2.2.1 q2 (by decide) q
  · rcases q with q | q | q
    · omega
    · omega
    · have := hv8 _ q
      omega
 case done =>
  rintro xs Y hS ⟨h1, h2, h3, ⟨v, h4, h5⟩, h6, h7⟩ hlt hK
  have HI := Lib.hid (And.intro h1 (And.intro h2 (And.intro h3 (And.intro h4 (And.intro h5 (And.intro h6 (And.intro h7 (And.intro hS hK))))))))
  have HCW : Hid (∀ w', Fr (fun b => P b ∨ b = w3.heap.size + 1) Y w' → w'.cell? ⟨w3.heap.size + 1 + 1, 0, none⟩ = some (.pointer (some ⟨w3.heap.size + 1, 0, none⟩)) ∧ Blk w' w3.heap.size 114 #[.int .u64 ((cc : Int) + 1), .int .u64 (si : Nat)]) := Lib.hid fun w' f => by
   have hn : ∀ b, w3.heap.size ≤ b → b ≠ w3.heap.size + 1 → ¬ (P b ∨ b = w3.heap.size + 1) := fun b h1 h2 q => by
    rcases q with q | q
    · have := (HH.out.2.2.2.2.2.1.2 b q).2; omega
    · exact h2 q
   have q := (HI.out.2.1.keep f (hn _ (by omega) (by omega))).cell 0
   exact ⟨by simpa using q, HI.out.2.2.1.keep f (hn _ (Nat.le_refl _) (by omega))⟩
  have hcc1 : cc + 1 ≤ 18446744073709551615 ∧ si ≤ 18446744073709551615 := by have q1 := HH.out.2.2.2.1; have q2 := HH.out.2.2.2.2.1.2.1; unfold maxC at q1; omega
  have HCC := Lib.hid hcc1
  clear h1 h2 h3 h4 h5 h6 h7 hS hK hcc1
  gi_wp2
  refine wpIn_wide.2 (wp_region_noPanic ?_)
  refine wp_region_held_drew (S := fun w' => Fr (fun b => P b ∨ b = w3.heap.size + 1) Y w') (by kernel_rfl) ((Fr.refl _ _).drew) (fun hS0 => ?_)
  refine anyH_tk 0 81 (.pointer (some ⟨w3.heap.size + 1, 0, none⟩)) rfl rfl (.inl ⟨by rfl, fun w'' hS => by have q := (HCW.out w'' hS).1; go_simp⟩) hS0 ?_
  (simp only [sA, sB, sC])
  refine anyH_tk 1 82 (.agg #[.int .u64 ((cc : Int) + 1), .int .u64 (si : Nat)]) rfl rfl (.inl ⟨by rfl, fun w'' hS => run_load_flat (c := cc + 1) (HCW.out w'' hS).2 rfl rfl⟩) hS0 ?_
  (simp only [sA, sB, sC])
  refine anyH_enter 2 83 (f := 76) (args := #[.agg #[.int .u64 ((cc : Int) + 1), .int .u64 (si : Nat)]]) (by kernel_rfl) rfl rfl (by rfl) (by go_simp) ?_
  refine (sector_any Y.drew (cc + 1) si HCC.out.1 HCC.out.2).mono ?_
  rintro e w8 ⟨rfl, f8⟩
  have f8' : Fr (fun _ => False) Y w8 := Fr.trans ((Fr.refl _ Y).drew) f8 (fun _ _ q => q)
  refine ⟨_, rfl, f8'.mono (fun _ _ q => q.elim), ?_⟩
  (simp only [sA, sB, sC])
  have f9 : Fr (fun _ => False) Y (w8.alloc (.cells (cellsB (hdS (cc + 1) si)).toArray 83)) := f8'.alloc _
  refine anyH_value 3 84 (.slice (some ⟨w8.heap.size, 0, none⟩) 1 1) (w8.alloc (.cells (cellsB (hdS (cc + 1) si)).toArray 83)) (by kernel_rfl) rfl rfl (by rfl) (run_build_op (.tmp 83) rfl (hdS_len _ _) rfl) (f9.mono (fun _ _ q => q.elim)) ?_
  (simp only [sA, sB, sC])
  refine anyH_enter 4 85 (f := 75) (args := #[.pointer (some ⟨w3.heap.size + 1, 0, none⟩), .int .i64 0, .slice (some ⟨w8.heap.size, 0, none⟩) 1 1]) (by kernel_rfl) rfl rfl (by rfl) (by go_simp) ?_
  have hb8 := Blk.new w8 83 (cellsB (hdS (cc + 1) si)).toArray
  have hlP : ¬ P (w3.heap.size + 1) := fun q => by have := (HH.out.2.2.2.2.2.1.2 _ q).2; omega
  have hd9 := HH.out.2.2.2.2.2.1.new (HI.out.2.2.2.2.2.2.1.trans f9 (fun _ _ q => q))
  refine (lsettle_any (HI.out.1.keep f9 (fun q => q)) hlP hd9 (i := 0) (SecV.one hb8 (hdS_len _ _)) (fun b' hb' q => by
   injection hb' with hb'
   have h1 := (HH.out.2.2.2.2.2.1.2 b' q).2
   have h2 := HI.out.2.2.2.2.2.2.1.size
   have h3 := f8'.size
   simp at hb'
   omega) (by have := hd9.len; simp; omega) HH.out.2.2.2.2.2.2.1).mono ?_
  rintro e w10 ⟨rfl, hlg, ⟨P', hp1, hp2⟩, hf10⟩
  have f10 : Fr (fun b => P b ∨ b = w3.heap.size + 1) Y w10 := (f9.mono (fun _ _ q => q.elim)).trans hf10 (fun _ _ q => q)
  refine ⟨_, rfl, f10, ?_⟩
  (simp only [sA, sB, sC])
  obtain ⟨ev, hev⟩ : ∃ ev : Int, ev = if d.settles 0 [hdS (cc + 1) si] = true then 0 else 10 := ⟨_, rfl⟩
  rw [← hev]
  refine anyH_tk 5 17 (.int .i64 ev) rfl rfl (.inl ⟨by rfl, fun w'' hS => by go_simp⟩) f10 ?_
  (simp only [sA, sB, sC])
  refine wpAnyH_done (by kernel_rfl) ?_ _
  refine NoPanic.normal ?_
  have hY9 := f9.size
  have hDl : w3.heap.size + 6 < Y.heap.size := by omega
  have hPD : ∀ b, P b → b < w.heap.size := fun b q => (HH.out.2.2.2.2.2.1.2 b q).2
  have hK1 : w10.heap[X0.heap.size]? = some (.deferred (some [])) := (f10.block _ (by omega) (fun q => by
   rcases q with q | q
   · have := hPD _ q; omega
   · omega)).trans HI.out.2.2.2.2.2.2.2.2
  have hP2 : ∀ b, P' b → P b ∨ Y.heap.size ≤ b := fun b hb => (hp2 b hb).imp id (fun q => by omega)
  have fw : Fr P w w10 := (HI.out.2.2.2.2.2.2.1.mono (fun _ _ q => q.elim)).trans f10 (fun i hi q => by
   rcases q with q | q
   · exact q
   · omega)
  have H10 := Lib.hid (And.intro hlg (And.intro hp1 (And.intro hp2 (And.intro f10 hev))))
  clear hlg hp1 hp2 hf10 f10 f9 f8 f8' hb8 hlP hd9 hev hS0
  cases hst : d.settles 0 [hdS (cc + 1) si] with
  | false =>
    have hev : ev = 10 := by rw [H10.out.2.2.2.2, hst]; rfl
    subst hev
    gi_wp2
    have fz := fr_putObj w10 X0.heap.size (.deferred none)
    refine ⟨by simp, .inl ⟨_, _, rfl, run_takeDeferred hK1, ?_⟩⟩
    refine ⟨_, results_tmp3 rfl _ _ _, fun _ => rfl, (fun q => by rw [hst] at q; cases q), ⟨P', H10.out.2.1.keep fz (fun b' hb' e => ?_), fun b' hb' => (hP2 b' hb').imp id (fun q => ?_), fun lb' v' h => ?_⟩, fw.trans fz (fun i hi q => ?_)⟩
    · rcases hP2 b' hb' with q | q
      · have := hPD _ q; omega
      · omega
    · have := HI.out.2.2.2.2.2.2.1.size; omega
    · exfalso
      injection h with h
      injection h with h
      simp at h
    · omega
  | true =>
    have hev : ev = 0 := by rw [H10.out.2.2.2.2, hst]; rfl
    subst hev
    gi_wp2
    have n13 : ∀ k, w3.heap.size ≤ k → k ≠ w3.heap.size + 1 → ¬ (P k ∨ k = w3.heap.size + 1) := fun k hk hk2 q => by
     rcases q with q | q
     · have := hPD _ q; omega
     · exact hk2 q
    have b13 := HI.out.2.1.keep H10.out.2.2.2.1 (n13 _ (by omega) (by omega))
    have b14 := HI.out.2.2.2.1.keep H10.out.2.2.2.1 (n13 _ (by omega) (by omega))
    have HBX := Lib.hid (And.intro b13 b14)
    clear b13 b14
    refine wpIn_wide.2 (wp_region_noPanic ?_)
    refine wp_region_held_drew (S := fun w' => Fr (fun _ => False) w10 w') (by kernel_rfl) ((Fr.refl _ _).drew) (fun hS0 => ?_)
    refine anyH_tk 0 89 (.pointer (some ⟨w3.heap.size + 1, 0, none⟩)) rfl rfl (.inl ⟨by rfl, fun w'' hS => by have q := (HBX.out.1.keep hS (fun q => q)).cell 0; simp at q; go_simp⟩) hS0 ?_
    (simp only [sA, sB, sC])
    refine anyH_tk 1 90 v rfl rfl (.inl ⟨by rfl, fun w'' hS => by have q := (HBX.out.2.keep hS (fun q => q)).cell 0; simp at q; go_simp⟩) hS0 ?_
    (simp only [sA, sB, sC])
    refine anyH_tk 2 4 (.pointer (some ⟨w3.heap.size + 1, 0, none⟩)) rfl rfl (.inl ⟨by rfl, fun w'' hS => by go_simp⟩) hS0 ?_
    (simp only [sA, sB, sC])
    refine anyH_tk 3 5 v rfl rfl (.inl ⟨by rfl, fun w'' hS => by go_simp⟩) hS0 ?_
    (simp only [sA, sB, sC])
    refine anyH_tk 4 6 (.int .i64 0) rfl rfl (.inl ⟨by rfl, fun w'' hS => by go_simp⟩) hS0 ?_
    (simp only [sA, sB, sC])
    refine wpAnyH_done (by kernel_rfl) ?_ _
    refine NoPanic.normal ?_
    gi_wp2
    have fz : Fr (fun k => k = X0.heap.size) w10 (w10.drew.putObj X0.heap.size (.deferred none)) := Fr.trans ((Fr.refl _ w10).drew) (fr_putObj w10.drew X0.heap.size (.deferred none)) (fun _ _ q => q)
    have hK2 : w10.drew.heap[X0.heap.size]? = some (.deferred (some [])) := hK1
    refine ⟨by simp, .inl ⟨_, _, rfl, run_takeDeferred hK2, ?_⟩⟩
    have hrs : rs = xs.map (fun x => (x.r, x.k)) := by rw [HH.out.2.2.2.2.2.2.2.1, ← HSS.out.1, HI.out.2.2.2.2.2.2.2.1]
    have hus : usedOf rs = (xs.map (·.k)).sum := by unfold usedOf; rw [hrs, List.map_map]; rfl
    have hln : rs.length = xs.length := by rw [hrs, List.length_map]
    have fYz : Fr (fun b => P b ∨ b = w3.heap.size + 1 ∨ b = X0.heap.size) Y (w10.drew.putObj X0.heap.size (.deferred none)) := (H10.out.2.2.2.1.mono (fun k _ q => q.elim .inl (fun q => .inr (.inl q)))).trans fz (fun k _ q => .inr (.inr q))
    have hnk : ∀ k, X0.heap.size + 2 ≤ k → ¬ (P k ∨ k = w3.heap.size + 1 ∨ k = X0.heap.size) := fun k hk q => by
     rcases q with q | q | q
     · have := hPD _ q; omega
     · omega
     · omega
    refine ⟨_, results_tmp3 rfl _ _ _, (fun q => by rw [hst] at q; cases q), fun _ => ⟨w3.heap.size + 1, v, rfl, by omega, ?_, xs.map (·.v), ?_, by rw [hrs, List.map_map, List.length_map, List.length_map], fun i u r hu hr => ?_⟩, ⟨P', H10.out.2.1.keep fz (fun b' hb' e => ?_), fun b' hb' => (hP2 b' hb').imp id (fun q => ?_), fun lb' v' h q => ?_⟩, fw.trans fz (fun i hi q => ?_)⟩
    · rw [hus, hln]
      have q := H10.out.1.keep fz (by omega)
      rw [hst] at q
      exact q
    · have q := own_keep HI.out.2.2.2.2.1 fYz (fun k hk => hnk k (own_low HI.out.2.2.2.2.1 hk))
      rw [List.length_map]
      exact own_less q (by omega)
    · obtain ⟨x, hx, rfl⟩ : ∃ x, xs[i]? = some x ∧ x.v = u := by simpa using hu
      have hr2 : r = x.r := by
       rw [hrs, List.map_map] at hr
       simp [hx] at hr
       exact hr.symm
      subst hr2
      have hxi := HI.out.2.2.2.2.2.1 x (List.mem_of_getElem? hx)
      have hk := hxi.keep fYz (fun b' hb' => hnk b' (hxi.2 b' hb').1)
      exact ⟨hk.1, fun b' hb' => ⟨by have := (hk.2 b' hb').1; omega, (hk.2 b' hb').2⟩⟩
    · rcases hP2 b' hb' with q | q
      · have := hPD _ q; omega
      · omega
    · have := HI.out.2.2.2.2.2.2.1.size; omega
    · injection h with h
      injection h with h
      simp at h
      obtain ⟨rfl, _⟩ := h
      rcases hP2 _ q with q | q
      · have := hPD _ q; omega
      · omega
    · omega
end Go.Proofs.YtcnlgbjkjlbmbaaGreat


