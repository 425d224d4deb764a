/- R4: laid together out of Qcl Qrd Qsd Qck. -/
import Derived.Test.YtcnlgbjkjlbmbaaGreatR3
namespace Go.Proofs.YtcnlgbjkjlbmbaaGreat
open Go.RowKit

set_option maxRecDepth 100000 in
theorem slice_of_int (u : Int) (w : World) : (Instr.buildSlice 27 1 #[(0, .int .i64 u)]).run Tryz.prog w = .ok (.slice (some ⟨w.heap.size, 0, none⟩) 1 1) (w.alloc (.cells #[.int .i64 u] 3)) := by
 obtain ⟨i0, hi, hz0, hz1, hz2⟩ := info_parts infoI64
 refine run_buildSlice w 27 3 1 _ _ i0 _ Tryz.underlying27 hi hz0 (by rw [hz1]; omega) (by rw [hz1]; omega) ?_
 rw [hz1]
 have hb : ((Array.range (1 * 1)).map ((Value.int .i64 0).cells[· % (Value.int .i64 0).cells.size]!)) = #[Value.int .i64 0] := by
  apply Array.ext
  · simp
  · intro i h1 h2
    simp at h1
    simp [Value.cells, h1]
 rw [hb]
 simp [Instr.fill, Value.cells]
section
variable {ops : Array Oper} {o : Oper} {a : Act} {Q : Exit → Act → World → Prop}
set_option maxRecDepth 100000 in
theorem wpList_push_int {rest : List Oper} {w : World} (hg : o.guard = none) (s x : Operand) (hop : o.op = Op.call { callee := Callee.builtin Builtin.append, args := #[s, x], argTypes := #[27, 27] }) {v : Value} {n base : Nat} {xs : List Value} (hs : a.eval s = v)
 (hown : w.ownsRow base 3 1 v n xs) {g : Nat} {u : Int} (hx : a.eval x = .slice (some ⟨g, 0, none⟩) 1 1) (hu : w.cell? ⟨g, 0, none⟩ = some (.int .i64 u)) (hn : n ≤ 100000) (hb : base ≤ w.heap.size)
 (hK : ∀ v' w', w'.ownsRow base 3 1 v' (n + 1) (xs ++ [.int .i64 u]) → w.grownBy w' v.ownBlock → (v'.ownBlock = v.ownBlock ∨ v'.ownBlock = some w.heap.size) → wpList Tryz.prog ops Q rest (a.put o.dst v') w') : wpList Tryz.prog ops Q (o :: rest) a w := by
 refine wpList_plain hg fun K' hK' => ?_
 obtain ⟨i0, hi, hz0, hz1, hz2⟩ := info_parts infoI64
 obtain ⟨v', w', hrun, ho', hgr, _, hat⟩ := run_append_own_at (P := Tryz.prog) w base 27 o.type 3 i0 (.int .i64 0) 1 8 Tryz.underlying27 hi hz0 hz1 hz2 rfl (by omega) v n xs hown ⟨g, 0, none⟩ 1 1 [.int .i64 u] rfl (fun j q hj => by
  cases j with
  | zero => simp at hj; subst hj; rw [addr_add]; exact hu
  | succ j => simp at hj) (fun q hq => by rw [List.mem_singleton.1 hq]; rfl) (by simp only [maxLen]; omega) (by omega) hb
 unfold Oper.wp
 simp [execOp, hop, resolve, invoke, builtin, hs, hx, hrun, Result.andThen]
 exact hK' _ _ (hK v' w' ho' hgr hat)
end
end Go.Proofs.YtcnlgbjkjlbmbaaGreat

namespace Go.Proofs.YtcnlgbjkjlbmbaaGreat
open Go.RowKit

def redoF (N : Nat) (f : Nat → List UInt8) (cs : List Chg) : Nat → List UInt8 := cs.foldl (fun f x => if x.n < (N : Int) then upd f x.n.toNat x.p else f) f
set_option maxRecDepth 100000 in
theorem redoF_app (N : Nat) (f : Nat → List UInt8) (a b : List Chg) : redoF N f (a ++ b) = redoF N (redoF N f a) b := List.foldl_append
set_option maxRecDepth 100000 in
theorem redoF_one (N : Nat) (f : Nat → List UInt8) (x : Chg) : redoF N f [x] = if x.n < (N : Int) then upd f x.n.toNat x.p else f := rfl
set_option maxRecDepth 100000 in
theorem chg_cells {w : World} {b : Nat} {x : Chg} {cs : Array Value} (h : Blk w b 101 cs) (hj : ∀ (j : Nat) (u : Value), (chC x)[j]? = some u → cs[j]? = some u) : w.cell? ⟨b, 0, none⟩ = some (.int .i64 x.n) ∧ w.rangeAt b 1 (cellsB x.p) := by
 refine ⟨by rw [h.cell]; exact hj 0 _ rfl, fun j u hu => ?_⟩
 rw [h.cell]
 refine hj _ _ ?_
 rw [Nat.add_comm]
 simpa [chC] using hu
section
variable {w : World} {p g z fr lb M1 M2 : Nat} {v : Value} {dd : Bool}
set_option maxRecDepth 100000 in
set_option maxHeartbeats 8000000 in
theorem plredo_any {B base : Nat} {P : Nat → Prop} {d : DS} {f2 : Nat → List UInt8} {rv : Value} {rs : List (List Chg)} (h : PlB w p g z fr lb M1 M2 v dd) (hd : DAt w B P g d) (hPM : ¬ P M2) (hm : PMap w M2 (pcnt d.rd.length z) f2) (hR : RcsV w base rv rs) (hx : ∀ r ∈ rs, r.length ≤ 1000 ∧ ∀ x ∈ r, 0 ≤ x.n ∧ x.n ≤ 2147483647) (hrs : rs.length ≤ 10000) (hN : pcnt d.rd.length z ≤ 8192) :
 Calls Tryz.prog 45 #[.pointer (some ⟨p, 0, none⟩), rv] w fun e w' => e = .returned (.tuple #[]) ∧ PMap w' M2 (pcnt d.rd.length z) (redoF (pcnt d.rd.length z) f2 rs.flatten) ∧ Fr (fun b => b = M2) w w' := by
 have HPA : Hid (∀ w', Fr (fun b => b = M2) w w' → PlB w' p g z fr lb M1 M2 v dd ∧ DAt w' B P g d) := Lib.hid fun w' f => ⟨h.keep f (fun e => hm.ne_blk h e.symm), hd.keep f (fun i hi e => hPM (e ▸ hi))⟩
 obtain ⟨N, hNe⟩ : ∃ N, N = pcnt d.rd.length z := ⟨_, rfl⟩
 rw [← hNe] at hm hN ⊢
 obtain ⟨vs, hown, hvl, hall⟩ := hR
 obtain ⟨A, cc, hv, _, _⟩ := own_slice hown
 obtain ⟨m, hmm⟩ : ∃ m, m = vs.length := ⟨_, rfl⟩
 have H0 := Lib.hid (And.intro hown (And.intro hvl (And.intro hall (And.intro hmm (And.intro hm (And.intro hx hNe))))))
 have hm9 : m ≤ 10000 := by omega
 rw [← hmm] at hv
 subst hv
 clear h hd hPM hown hvl hall hmm hm hx hNe hrs
 go_enter Tryz.func45, Tryz.ntmps45
 go_wp2_with fail
 go_loopw [10] (fun x wr => ∃ k : Nat, x = .int .i64 k ∧ k ≤ m ∧ Hid (PMap wr M2 N (redoF N f2 (rs.take k).flatten)) ∧ Hid (Fr (fun b => b = M2) w wr)) (fun x _ => m - (intOf x).toNat)
 case atStart => exact ⟨0, rfl, Nat.zero_le _, Lib.hid H0.out.2.2.2.2.1, Lib.hid (Fr.refl _ _)⟩
 case round =>
  obtain ⟨k, rfl, hk, HM, HF⟩ := hrel
  by_cases hlt : k < m
  · obtain ⟨hown, hvl, hall, hmm, hm, hx, hNe⟩ := H0.out
    have hnM : ∀ b t cs, Blk w b t cs → ¬ b = M2 := fun b t cs hb e => hm.ne_blk hb e.symm
    obtain ⟨u, hu⟩ : ∃ u, vs[k]? = some u := ⟨_, List.getElem?_eq_getElem (by omega)⟩
    obtain ⟨r, hr⟩ : ∃ r, rs[k]? = some r := ⟨_, List.getElem?_eq_getElem (by omega)⟩
    obtain ⟨g1, cap, hvA, hcell⟩ := own_cell1 (own_keep hown HF.out (fun k hk e => hm.ne_own hown (by rw [hk, e]))) (i := k) (u := u) hu
    have hA : A = some ⟨g1, 0, none⟩ := by injection hvA
    subst hA
    clear hvA
    obtain ⟨q1, q2⟩ := hall k u r hu hr
    have hxr := hx r (List.mem_of_getElem? hr)
    have h512 := q1.all512
    obtain ⟨Au, cu, rfl, hc1, hc2, hat⟩ := q1
    obtain ⟨n, hn⟩ : ∃ n, n = r.length := ⟨_, rfl⟩
    have hts : (rs.take (k + 1)).flatten = (rs.take k).flatten ++ r := by rw [List.take_add_one, hr]; simp
    have hn9 : n ≤ 1000 := by rw [hn]; exact hxr.1
    have hubl : ∀ b off, Au = some ⟨b, off, none⟩ → ¬ b = M2 := fun b off e => by
     obtain ⟨_, cs, hb⟩ := q2 b (by rw [e]; rfl)
     exact hnM b _ _ hb
    have HR := Lib.hid (And.intro hn (And.intro hat (And.intro hxr.2 (And.intro h512 (And.intro hts hubl)))))
    rw [← hn] at hcell
    have hk0 : (0 : Int) ≤ (k : Int) := by omega
    have hkm : (k : Int) < (m : Int) := by omega
    clear hown hvl hall hmm hm hx hNe hnM hu hr q2 hxr h512 hc1 hc2 hat hn hts hubl hlt
    go_wp2_with fail
    clear hcell
    have HG := Lib.hid (And.intro HM.out HF.out)
    clear HM HF
    generalize wr = wo at *
    go_loopw [16] (fun y wi => ∃ i : Nat, y = .int .i64 i ∧ i ≤ n ∧ Hid (PMap wi M2 N (redoF N f2 ((rs.take k).flatten ++ r.take i))) ∧ Hid (Fr (fun b => b = M2) w wi)) (fun y _ => n - (intOf y).toNat)
    case atStart => exact ⟨0, rfl, Nat.zero_le _, Lib.hid (by rw [List.take_zero, List.append_nil]; exact HG.out.1), Lib.hid HG.out.2⟩
    case round =>
     obtain ⟨i, rfl, hi, HMi, HFi⟩ := hrel
     by_cases hin : i < n
     · obtain ⟨x, hx⟩ : ∃ x, r[i]? = some x := ⟨_, List.getElem?_eq_getElem (by have := HR.out.1; omega)⟩
       obtain ⟨b, off, hAu, hat⟩ := HR.out.2.1 (by have := HR.out.1; omega)
       subst hAu
       have hbM := HR.out.2.2.2.2.2 b off rfl
       have hxl := (hat i x hx).1
       have hr := (hat i x hx).2
       have hr' : wr.rangeAt b (off + i * 513) (chC x) := fun j u hj => (HFi.out.cell (World.block_lt_of_cell? w _ (hr j u hj)) hbM).trans (hr j u hj)
       have hts : r.take (i + 1) = r.take i ++ [x] := by rw [List.take_add_one, hx]; rfl
       have hxn := HR.out.2.2.1 x (List.mem_of_getElem? hx)
       obtain ⟨W2, hW2, hb2, hf2, hth⟩ : ∃ W2, W2 = (wr.alloc (.cells (chC zChg).toArray 101)).setCells wr.heap.size 0 (chC x) ∧ (∃ cs2, Blk W2 wr.heap.size 101 cs2 ∧ ∀ j u, (chC x)[j]? = some u → cs2[j]? = some u) ∧ Fr (fun _ => False) wr W2 ∧ (wr.alloc (.cells (chC zChg).toArray 101)).there wr.heap.size 0 (chC x).toArray.size := by
        have hbn := Blk.new wr 101 (chC zChg).toArray
        have hz9 : (chC zChg).length = 513 := chC_len (nought_len _)
        have hx9 : (chC x).length = 513 := chC_len hxl
        obtain ⟨cs2, j1, j2, j3, j4⟩ := hbn.range_set (vs := chC x) (o := 0) (by rw [List.size_toArray, hz9, hx9]; omega)
        exact ⟨_, rfl, ⟨cs2, j1, fun j u hu => by have := j3 j u hu; rwa [Nat.zero_add] at this⟩, Fr.setCells (.inr (Nat.le_refl _)) ((Fr.refl _ wr).alloc _), hbn.there (by rw [List.size_toArray, List.size_toArray, hz9, hx9]; omega)⟩
       obtain ⟨cs2, hb2, hj2⟩ := hb2
       obtain ⟨n', hn'⟩ : ∃ n' : Nat, x.n = n' := ⟨x.n.toNat, by omega⟩
       obtain ⟨bB, hbB⟩ : ∃ bB, bB = wr.heap.size := ⟨_, rfl⟩
       have HX := Lib.hid (And.intro hx (And.intro hxl (And.intro hr' (And.intro hts (And.intro hf2 (And.intro hn' (And.intro hth hbB)))))))
       rw [← hbB] at hb2
       have hM2 : PMap W2 M2 N (redoF N f2 ((rs.take k).flatten ++ r.take i)) := HMi.out.keep hf2 (fun q => q)
       have hbM2 : ¬ bB = M2 := fun e => hM2.ne_blk hb2 e.symm
       have hcells : ∀ w'', Fr (fun b => b = M2) W2 w'' → w''.cell? ⟨bB, 0, none⟩ = some (.int .i64 (n' : Nat)) ∧ w''.rangeAt bB 1 (cellsB x.p) ∧ w''.cell? ⟨p, 5, none⟩ = some (.map (some M2)) := fun w'' f => by
        have q := chg_cells (hb2.keep f hbM2) hj2
        rw [hn'] at q
        exact ⟨q.1, q.2, (pl_cells (HPA.out w'' ((HFi.out.trans hf2 (fun _ _ q => q.elim)).trans f (fun _ _ q => q))).1).2.2.2.2.2.1⟩
       have HC := Lib.hid hcells
       have HM2 := Lib.hid hM2
       have hi0 : (0 : Int) ≤ (i : Int) := by omega
       have hi1 : (i : Int) < (n : Int) := by omega
       clear hx hxl hr hr' hts hb2 hf2 hth hj2 hxn hat hbM hcells hM2 hbM2 hin hbB hn'
       go_wp2_with (first
        | (refine wpList_load_mid rfl 101 _ rfl b (off + i * 513) rfl (chC x) _ HX.out.2.2.1 Tryz.underlying101 rfl (by rw [infoChange, chC_len HX.out.2.1]) ?_)
        | (refine wpList_zero_agg rfl 101 rfl zeroChg ?_)
        | (refine wpList_store_mid rfl 101 _ _ rfl wr.heap.size 0 (chC x).toArray rfl rfl HX.out.2.2.2.2.2.2.1 (by rw [infoChange]; exact congrArg some (chC_len HX.out.2.1).symm) (all_oneCell_toArray (chC_one x)) ?_; rw [← hW2]; clear hW2))
       rw [← HX.out.2.2.2.2.2.2.2]
       (try simp only [Act.put, List.setIfInBounds_toArray, List.set_cons_zero, List.set_cons_succ])
       have hpg := HPA.out W2.drew ((HFi.out.trans HX.out.2.2.2.2.1 (fun _ _ q => q.elim)).drew)
       have HPG := Lib.hid (plpages_any hpg.1 hpg.2)
       rw [← H0.out.2.2.2.2.2.2] at HPG
       clear hpg
       refine wp_region_held_drew (S := fun w' => Fr (fun b => b = M2) W2 w') (by kernel_rfl) ((Fr.refl _ _).drew) (fun hS0 => ?_)
       refine anyH_tk 0 20 (.pointer (some ⟨bB, 0, none⟩)) rfl rfl (.inl ⟨by rfl, fun w'' hS => by go_simp⟩) hS0 ?_
       (simp only [sA, sB, sC])
       refine anyH_tk 1 21 (.int .i64 (n' : Nat)) rfl rfl (.inl ⟨by rfl, fun w'' hS => by have q0 := (HC.out w'' hS).1; go_simp⟩) hS0 ?_
       (simp only [sA, sB, sC])
       refine anyH_tk 2 22 (.pointer (some ⟨p, 0, none⟩)) rfl rfl (.inl ⟨by rfl, fun w'' hS => by go_simp⟩) hS0 ?_
       (simp only [sA, sB, sC])
       refine anyH_enter 3 23 (f := 28) (args := #[(.pointer (some ⟨p, 0, none⟩))]) (by kernel_rfl) rfl rfl (by rfl) (by go_simp) ?_
       refine HPG.out.mono ?_
       rintro e wv ⟨rfl, rfl⟩
       refine ⟨_, rfl, ((Fr.refl (fun b => b = M2) W2).drew).drew, ?_⟩
       (simp only [sA, sB, sC])
       have hS0 := ((Fr.refl (fun b => b = M2) W2).drew).drew
       have HS3 : Hid (Fr (fun _ => False) W2 W2.drew.drew) := Lib.hid (((Fr.refl _ W2).drew).drew)
       generalize W2.drew.drew = W3 at *
       obtain ⟨tb, htb⟩ : ∃ tb, tb = decide ((n' : Int) < (N : Int)) := ⟨_, rfl⟩
       have htb' : ∀ W, (binOp .lss 3 (.int .i64 (n' : Nat)) (.int .i64 (N : Nat))).run Tryz.prog W = .ok (.bool tb) W := fun W => by rw [htb]; go_simp
       refine anyH_tk 4 24 (.bool tb) rfl rfl (.inl ⟨by rfl, fun w'' hS => by have q0 := htb' w''; go_simp⟩) hS0 ?_
       (simp only [sA, sB, sC])
       refine wpAnyH_done (by kernel_rfl) ?_ _
       have HS4 := Lib.hid hS0
       have HTB := Lib.hid htb
       clear hS0 HPG htb htb'
       have hM3 := HM2.out.keep HS3.out (fun q => q)
       cases tb
       · have hno : ¬ x.n < (N : Int) := by have := HTB.out; rw [HX.out.2.2.2.2.2.1]; simpa using this.symm
         have hred : redoF N f2 ((rs.take k).flatten ++ r.take (i + 1)) = redoF N f2 ((rs.take k).flatten ++ r.take i) := by
          rw [HX.out.2.2.2.1, ← List.append_assoc, redoF_app, redoF_one, if_neg hno]
         have HE := Lib.hid (And.intro hred hM3)
         clear hno hred hM3
         go_wp2_with fail
         refine ⟨⟨i + 1, by norm_cast, by omega, Lib.hid (by rw [HE.out.1]; exact HE.out.2), Lib.hid ((HFi.out.trans HX.out.2.2.2.2.1 (fun _ _ q => q.elim)).trans HS3.out (fun _ _ q => q.elim))⟩, ?_⟩
         simp only [intOf]
         omega
       · have hyes : x.n < (N : Int) := by have := HTB.out; rw [HX.out.2.2.2.2.2.1]; simpa using this.symm
         have hred : redoF N f2 ((rs.take k).flatten ++ r.take (i + 1)) = upd (redoF N f2 ((rs.take k).flatten ++ r.take i)) n' x.p := by
          rw [HX.out.2.2.2.1, ← List.append_assoc, redoF_app, redoF_one, if_pos hyes, HX.out.2.2.2.2.2.1]
          rfl
         have hnN : n' < N := by have := HX.out.2.2.2.2.2.1; omega
         obtain ⟨w5, hrun, hm5, f5⟩ := (hM3.keep (G := fun _ => False) ((Fr.refl _ W3).drew) (fun q => q)).put hN hnN HX.out.2.1
         have f5' : Fr (fun b => b = M2) W3 w5 := ((Fr.refl (fun b => b = M2) W3).drew).trans f5 (fun _ _ q => q)
         have H5 := Lib.hid (And.intro hrun (And.intro hm5 (And.intro f5' hred)))
         have HC3 : Hid (∀ w'', Fr (fun b => b = M2) W3 w'' → w''.cell? ⟨bB, 0, none⟩ = some (.int .i64 (n' : Nat)) ∧ w''.rangeAt bB 1 (cellsB x.p) ∧ w''.cell? ⟨p, 5, none⟩ = some (.map (some M2))) := Lib.hid fun w'' f => HC.out w'' (HS4.out.trans f (fun _ _ q => q))
         clear hyes hred hnN hrun hm5 f5 f5' hM3
         go_wp2_with fail
         (try simp only [Act.put, List.setIfInBounds_toArray, List.set_cons_zero, List.set_cons_succ])
         refine wp_region_held_drew (S := fun w' => Fr (fun b => b = M2) W3 w') (by kernel_rfl) ((Fr.refl _ _).drew) (fun hS0 => ?_)
         refine anyH_tk 0 25 (.pointer (some ⟨p, 0, none⟩)) rfl rfl (.inl ⟨by rfl, fun w'' hS => by go_simp⟩) hS0 ?_
         (simp only [sA, sB, sC])
         refine anyH_tk 1 26 (.pointer (some ⟨p, 0, none⟩)) rfl rfl (.inl ⟨by rfl, fun w'' hS => by go_simp⟩) hS0 ?_
         (simp only [sA, sB, sC])
         refine anyH_tk 2 27 (.pointer (some ⟨p, 5, none⟩)) rfl rfl (.inl ⟨by rfl, fun w'' hS => by go_simp⟩) hS0 ?_
         (simp only [sA, sB, sC])
         refine anyH_tk 3 28 (.map (some M2)) rfl rfl (.inl ⟨by rfl, fun w'' hS => by have q0 := (HC3.out w'' hS).2.2; go_simp⟩) hS0 ?_
         (simp only [sA, sB, sC])
         refine anyH_tk 4 29 (.pointer (some ⟨bB, 0, none⟩)) rfl rfl (.inl ⟨by rfl, fun w'' hS => by go_simp⟩) hS0 ?_
         (simp only [sA, sB, sC])
         refine anyH_tk 5 30 (.int .i64 (n' : Nat)) rfl rfl (.inl ⟨by rfl, fun w'' hS => by have q0 := (HC3.out w'' hS).1; go_simp⟩) hS0 ?_
         (simp only [sA, sB, sC])
         refine anyH_tk 6 31 (.pointer (some ⟨bB, 1, none⟩)) rfl rfl (.inl ⟨by rfl, fun w'' hS => by go_simp⟩) hS0 ?_
         (simp only [sA, sB, sC])
         refine anyH_tk 7 32 (av x.p) rfl rfl (.inl ⟨by rfl, fun w'' hS => run_load_mid 50 _ rfl bB 1 rfl (cellsB x.p) _ (HC3.out w'' hS).2.1 Tryz.underlying50 rfl (by rw [infoPgS, cellsB_len, HX.out.2.1])⟩) hS0 ?_
         (simp only [sA, sB, sC])
         refine anyH_skip 8 w5 (by kernel_rfl) rfl rfl (by rfl) (run_update_op (.tmp 28) (.tmp 30) (.tmp 32) 62 rfl rfl rfl rfl H5.out.1) H5.out.2.2.1 ?_
         refine wpAnyH_done (by kernel_rfl) ?_ _
         clear hS0
         go_wp2_with fail
         refine ⟨⟨i + 1, by norm_cast, by omega, Lib.hid (by rw [H5.out.2.2.2]; exact H5.out.2.1), Lib.hid (((HFi.out.trans HX.out.2.2.2.2.1 (fun _ _ q => q.elim)).trans HS3.out (fun _ _ q => q.elim)).trans H5.out.2.2.1 (fun _ _ q => q))⟩, ?_⟩
         simp only [intOf]
         omega
     · have hie : i = n := by omega
       subst hie
       have hM : PMap wr M2 N (redoF N f2 (rs.take (k + 1)).flatten) := by
        have := HMi.out
        have e9 : r.take i = r := List.take_of_length_le (by have := HR.out.1; omega)
        rw [e9] at this
        rw [HR.out.2.2.2.2.1]
        exact this
       have HE := Lib.hid hM
       clear hM hin
       go_wp2_with fail
       refine ⟨⟨k + 1, by norm_cast, by omega, Lib.hid HE.out, Lib.hid HFi.out⟩, ?_⟩
       simp only [intOf]
       omega
  · have hkm : m = k := by omega
    subst hkm
    clear hlt
    go_wp2_with fail
    refine bodyPost_end (results_none rfl _ _ _) rfl ?_
    have := HM.out
    rw [List.take_of_length_le (by have := H0.out.2.1; have := H0.out.2.2.2.1; omega)] at this
    exact ⟨rfl, this, HF.out⟩
end
end Go.Proofs.YtcnlgbjkjlbmbaaGreat

namespace Go.Proofs.YtcnlgbjkjlbmbaaGreat
open Go.RowKit

set_option maxRecDepth 100000 in
theorem pspent_any {w : World} {lb g z c s us mm : Nat} {ld : Bool} (h : LgW w lb g z c s us mm ld) (hc : c < maxC) : Calls Tryz.prog 53 #[.pointer (some ⟨lb, 0, none⟩)] w fun e w' => e = .returned (.bool false) ∧ w = w' := by
 have HC := Lib.hid (lcount_any h)
 have hm : maxC = 4611686018427387904 := rfl
 have hb : ((c : Int) == 4611686018427387904) = false := by rw [beq_eq_false_iff_ne]; omega
 clear h hm
 go_enter Tryz.func53, Tryz.ntmps53
 go_wp2_with fail
 refine HC.out.mono ?_
 rintro e w1 ⟨rfl, rfl⟩
 go_wp2_with fail
 go_ret
 exact ⟨rfl, rfl⟩
set_option maxRecDepth 100000 in
theorem acopy_any {w : World} {B g : Nat} {P : Nat → Prop} {d : DS} (h : DAt w B P g d) (hN : ∀ i, i < d.rd.length → (d.vs i).length ≤ 100000) :
 Calls Tryz.prog 69 #[.pointer (some ⟨g, 0, none⟩)] w fun e w' => ∃ g2 o P2, e = .returned (.pointer (some ⟨g2, 0, none⟩)) ∧ DT w' w.heap.size g2 o P2 ∧ (∀ b, P2 b → w.heap.size ≤ b) ∧ o.As d ∧ Fr (fun _ => False) w w' := by
 obtain ⟨⟨R, M, D, val, k1⟩, k2⟩ := h
 refine (dcopy_any k1 hN).mono ?_
 rintro e w' ⟨g2, R2, M2, D2, val2, o, rfl, ho, hoa, f⟩
 obtain ⟨P', hp1, hp2⟩ := DAt.of (w := w) (w' := w') (B := w.heap.size) (P := fun _ => False) ⟨R2, M2, D2, val2, ho.mono (fun i hi => .inr hi)⟩ (Nat.le_refl _) (fun b q => q.elim) f.size
 obtain ⟨P2, hq1, hq2⟩ := DT.of hp1 hp2
 exact ⟨g2, o, P2, rfl, hq1, fun b hb => (hq2 b hb).resolve_left (fun q => q), hoa, f⟩
section
variable {w : World} {B g z c s e : Nat} {P : Nat → Prop} {d : DS} {q : List (Nat × List Chg)}
set_option maxRecDepth 100000 in
theorem pspends_any (h : DAt w B P g d) (hr : RI d z c s q e) (h4 : 4 ≤ z) (hz : z ≤ 4000) (hc : c + 1 < maxC) : Calls Tryz.prog 43 #[.pointer (some ⟨g, 0, none⟩), .int .i64 z] w fun en w' => en = .returned (.bool false) ∧ Fr (fun _ => False) w w' := by
 have HC := Lib.hid (acopy_any h (fun i _ => by rw [hr.vs i]; exact Nat.zero_le _))
 have H0 := Lib.hid hr
 clear h hr
 go_enter Tryz.func43, Tryz.ntmps43
 go_wp2_with fail
 refine HC.out.mono ?_
 rintro en w1 ⟨g2, o, P2, rfl, hd1, hp1, hoa, f1⟩
 have hro : RI o z c s q e := H0.out.same hoa.rd (fun j => by
  by_cases hj : j < d.rd.length
  · rw [hoa.vs j hj]; exact H0.out.vs j
  · exact hoa.out j (by omega))
 have HO := Lib.hid (ropen_any hd1 hro h4 hz (by omega))
 have H1 := Lib.hid (And.intro hp1 f1)
 clear hd1 hp1 hoa f1 hro HC
 go_wp2_with fail
 refine HO.out.mono ?_
 rintro en w2 ⟨o1, o2, _, f2⟩
 have hfin : Fr (fun _ => False) w w2 := H1.out.2.trans f2 (fun b hb q => by have := H1.out.1 b q; omega)
 have HF := Lib.hid hfin
 clear f2 hfin HO
 cases hs : o.settles 0 [hdS (c + 1) s] with
 | false =>
   obtain rfl := o1 hs
   clear o1 o2 hs
   go_wp2_with fail
   go_ret
   exact ⟨rfl, HF.out⟩
 | true =>
   obtain ⟨lb, v, rfl, hlb, hlg, hv⟩ := o2 hs
   obtain ⟨A, cv, rfl, _⟩ := hv.form
   have HL := Lib.hid (pspent_any hlg hc)
   obtain ⟨m, hm⟩ : ∃ m, m = (q.map (·.2)).length := ⟨_, rfl⟩
   rw [← hm]
   clear o1 o2 hs hlb hlg hv hm
   by_cases h0 : 0 < m
   · have h0' : (0 : Int) < (m : Int) := by omega
     go_wp2_with fail
     refine HL.out.mono ?_
     rintro en w3 ⟨rfl, rfl⟩
     go_wp2_with fail
     go_ret
     exact ⟨rfl, HF.out⟩
   · have h0' : ¬ (0 : Int) < (m : Int) := by omega
     go_wp2_with fail
     go_ret
     exact ⟨rfl, HF.out⟩
end
end Go.Proofs.YtcnlgbjkjlbmbaaGreat

namespace Go.Proofs.YtcnlgbjkjlbmbaaGreat
open Go.RowKit

def ckD (d : DS) (z c N : Nat) (f : Nat → List UInt8) : DS := if (d.puts (pagesW z f (openF f N))).alive = true then (d.puts (pagesW z f (openF f N))).flushed.settle 0 [hdS (c + 1) (c + 1)] else (d.puts (pagesW z f (openF f N))).flushed
def ckOk (d : DS) (z c N : Nat) (f : Nat → List UInt8) : Bool := (d.puts (pagesW z f (openF f N))).alive && (d.puts (pagesW z f (openF f N))).flushed.settles 0 [hdS (c + 1) (c + 1)]
section
variable {w : World} {p g z fr lb M1 M2 : Nat} {v : Value} {dd : Bool}
set_option maxRecDepth 100000 in
set_option maxHeartbeats 4000000 in
theorem plckpt_any {B c s e N : Nat} {P : Nat → Prop} {d : DS} {q : List (Nat × List Chg)} {f2 : Nat → List UInt8} (h : PlB w p g z fr lb M1 M2 v dd) (hd : DT w B g d P) (hr : RI d z c s q e) (hl : LgW w lb g z c s e q.length false) (hpP : ¬ P p) (hMP : ¬ P M2) (hm : PMap w M2 N f2) (hN : N ≤ 2000) (hz : z ≤ 4000) (hfit : 1 + z + 4 * N ≤ d.rd.length) (hc : c < maxC) :
 Calls Tryz.prog 46 #[.pointer (some ⟨p, 0, none⟩)] w fun en w' => en = .returned (.int .i64 (if ckOk d z c N f2 then 0 else 10)) ∧ PlB w' p g z fr lb M1 M2 v dd ∧ (ckOk d z c N f2 = true → LgW w' lb g z (c + 1) (c + 1) 0 0 false ∧ PMap w' M2 N (fun _ => [])) ∧ (∃ P', DT w' B g (ckD d z c N f2) P' ∧ ∀ b, P' b → P b ∨ w.heap.size ≤ b) ∧ Fr (fun b => P b ∨ b = lb ∨ b = M2) w w' := by
 have hdr : Fr (fun _ => False) w w.drew := (Fr.refl _ w).drew
 have HS := Lib.hid (psettle_any (z := z) (hd.1.new hdr) (hm.keep hdr (fun q => q)) hMP hN hz hfit (fun j => by rw [hr.vs j]; exact Nat.zero_le _))
 have h512 : ∀ n, f2 n ≠ [] → n < N ∧ (f2 n).length = 512 := fun n hn => hm.some_lt hn
 obtain ⟨d1, hd1⟩ : ∃ d1, d1 = d.puts (pagesW z f2 (openF f2 N)) := ⟨_, rfl⟩
 have hri : d1.alive = true → RI d1.flushed z c s q e := fun ha => by
  rw [hd1] at ha ⊢
  exact hr.puts h512 hfit ha
 have eD : ckD d z c N f2 = if d1.alive = true then d1.flushed.settle 0 [hdS (c + 1) (c + 1)] else d1.flushed := by unfold ckD; rw [← hd1]
 have eO : ckOk d z c N f2 = (d1.alive && d1.flushed.settles 0 [hdS (c + 1) (c + 1)]) := by unfold ckOk; rw [← hd1]
 rw [← hd1] at HS
 obtain ⟨ok, hok⟩ : ∃ ok, ok = ckOk d z c N f2 := ⟨_, rfl⟩
 obtain ⟨dF, hdF⟩ : ∃ dF, dF = ckD d z c N f2 := ⟨_, rfl⟩
 rw [← hok, ← hdF]
 rw [eO] at hok
 rw [eD] at hdF
 obtain ⟨rr, hrr⟩ : ∃ rr : Int, rr = if ok = true then 0 else 10 := ⟨_, rfl⟩
 rw [← hrr]
 obtain ⟨K, hK⟩ : ∃ K : World → Prop, K = fun w' => ok = true → LgW w' lb g z (c + 1) (c + 1) 0 0 false ∧ PMap w' M2 N (fun _ => []) := ⟨_, rfl⟩
 have hKK : ∀ w', (ok = true → LgW w' lb g z (c + 1) (c + 1) 0 0 false ∧ PMap w' M2 N (fun _ => [])) = K w' := fun w' => by rw [hK]
 simp only [hKK]
 have HO := Lib.hid (And.intro hok (And.intro hdF (And.intro hrr hK)))
 clear hok hdF hrr hK hKK
 have hpl : p ≠ lb := h.ne_ hl (by decide)
 have hcells : ∀ w'', Fr P w w'' → w''.cell? ⟨p, 0, none⟩ = some (.pointer (some ⟨g, 0, none⟩)) ∧ w''.cell? ⟨p, 1, none⟩ = some (.int .i64 (z : Nat)) ∧ w''.cell? ⟨p, 5, none⟩ = some (.map (some M2)) := fun w'' f => by
  have q := pl_cells (h.keep f hpP)
  exact ⟨q.1, q.2.1, q.2.2.2.2.2.1⟩
 have HC := Lib.hid hcells
 have hnl := hd.not_log hl
 have H0 := Lib.hid (And.intro h (And.intro hd (And.intro hl (And.intro hpP (And.intro hMP (And.intro hm (And.intro hri (And.intro hpl (And.intro (hm.ne_blk hl) (And.intro (hm.ne_blk h) hnl))))))))))
 clear h hd hr hl hpP hMP hm h512 hd1 hri eD eO hpl hdr hcells hfit hnl
 go_enter Tryz.func46, Tryz.ntmps46
 go_wp2_with fail
 (try simp only [Act.put, List.setIfInBounds_toArray, List.set_cons_zero, List.set_cons_succ])
 refine wp_region_held_drew (S := fun w' => Fr P w w') (by kernel_rfl) ((Fr.refl _ _).drew) (fun hS0 => ?_)
 refine anyH_tk 0 5 (.pointer (some ⟨p, 0, none⟩)) rfl rfl (.inl ⟨by rfl, fun w'' hS => by go_simp⟩) hS0 ?_
 (simp only [sA, sB, sC])
 refine anyH_tk 1 6 (.pointer (some ⟨p, 0, none⟩)) rfl rfl (.inl ⟨by rfl, fun w'' hS => by go_simp⟩) hS0 ?_
 (simp only [sA, sB, sC])
 refine anyH_tk 2 7 (.pointer (some ⟨p, 0, none⟩)) rfl rfl (.inl ⟨by rfl, fun w'' hS => by go_simp⟩) hS0 ?_
 (simp only [sA, sB, sC])
 refine anyH_tk 3 8 (.pointer (some ⟨g, 0, none⟩)) rfl rfl (.inl ⟨by rfl, fun w'' hS => by have q0 := (HC.out w'' hS).1; go_simp⟩) hS0 ?_
 (simp only [sA, sB, sC])
 refine anyH_tk 4 9 (.pointer (some ⟨p, 0, none⟩)) rfl rfl (.inl ⟨by rfl, fun w'' hS => by go_simp⟩) hS0 ?_
 (simp only [sA, sB, sC])
 refine anyH_tk 5 10 (.pointer (some ⟨p, 0, none⟩)) rfl rfl (.inl ⟨by rfl, fun w'' hS => by go_simp⟩) hS0 ?_
 (simp only [sA, sB, sC])
 refine anyH_tk 6 11 (.pointer (some ⟨p, 1, none⟩)) rfl rfl (.inl ⟨by rfl, fun w'' hS => by go_simp⟩) hS0 ?_
 (simp only [sA, sB, sC])
 refine anyH_tk 7 12 (.int .i64 (z : Nat)) rfl rfl (.inl ⟨by rfl, fun w'' hS => by have q0 := (HC.out w'' hS).2.1; go_simp⟩) hS0 ?_
 (simp only [sA, sB, sC])
 refine anyH_tk 8 13 (.pointer (some ⟨p, 0, none⟩)) rfl rfl (.inl ⟨by rfl, fun w'' hS => by go_simp⟩) hS0 ?_
 (simp only [sA, sB, sC])
 refine anyH_tk 9 14 (.pointer (some ⟨p, 0, none⟩)) rfl rfl (.inl ⟨by rfl, fun w'' hS => by go_simp⟩) hS0 ?_
 (simp only [sA, sB, sC])
 refine anyH_tk 10 15 (.pointer (some ⟨p, 5, none⟩)) rfl rfl (.inl ⟨by rfl, fun w'' hS => by go_simp⟩) hS0 ?_
 (simp only [sA, sB, sC])
 refine anyH_tk 11 16 (.map (some M2)) rfl rfl (.inl ⟨by rfl, fun w'' hS => by have q0 := (HC.out w'' hS).2.2; go_simp⟩) hS0 ?_
 (simp only [sA, sB, sC])
 refine anyH_enter 12 17 (f := 58) (args := #[(.pointer (some ⟨g, 0, none⟩)), .int .i64 (z : Nat), .map (some M2)]) (by kernel_rfl) rfl rfl (by rfl) (by go_simp) ?_
 refine HS.out.mono ?_
 rintro en w2 ⟨rfl, ⟨Pa, hda, hpa⟩, f2a⟩
 have fS : Fr P w w2 := ((Fr.refl P w).drew).trans f2a (fun _ _ q => q)
 refine ⟨_, rfl, fS, ?_⟩
 (simp only [sA, sB, sC])
 have hS0 := fS
 obtain ⟨r1, hr1⟩ : ∃ r1 : Int, r1 = if d1.alive = true then 0 else 10 := ⟨_, rfl⟩
 rw [← hr1]
 refine anyH_tk 13 3 (.int .i64 r1) rfl rfl (.inl ⟨by rfl, fun w'' hS => by go_simp⟩) hS0 ?_
 (simp only [sA, sB, sC])
 refine wpAnyH_done (by kernel_rfl) ?_ _
 rw [hr1]
 obtain ⟨P1, hd1, hp1⟩ := DT.of hda hpa
 have h2 := H0.out.1.keep fS H0.out.2.2.2.1
 have hm2 := H0.out.2.2.2.2.2.1.keep fS H0.out.2.2.2.2.1
 have hl2 := H0.out.2.2.1.keep fS H0.out.2.2.2.2.2.2.2.2.2.2
 have H2 := Lib.hid (And.intro hd1 (And.intro (show ∀ b, P1 b → P b ∨ w.heap.size ≤ b from fun b hb => hp1 b hb) (And.intro h2 (And.intro hm2 (And.intro hl2 fS)))))
 clear hS0 f2a hda hpa hd1 hp1 h2 hm2 hl2 fS HS hr1
 cases ha : d1.alive with
 | false =>
   simp only [Bool.false_eq_true, if_false]
   have HA := Lib.hid ha
   clear ha
   go_wp2_with fail
   go_ret
   obtain ⟨hd1, hp1, h2, hm2, hl2, fS⟩ := H2.out
   have e1 := HO.out.1
   have e2 := HO.out.2.1
   rw [HA.out] at e1 e2
   simp only [Bool.false_and] at e1
   simp only [Bool.false_eq_true, if_false] at e2
   have e3 := HO.out.2.2.1
   have e4 := HO.out.2.2.2
   rw [e1] at e3 e4
   simp only [Bool.false_eq_true, if_false, if_true] at e3
   rw [e3, e2, e4]
   exact ⟨rfl, h2, (by intro q; cases q), ⟨P1, hd1, hp1⟩, fS.mono (fun _ _ q => .inl q)⟩
 | true =>
   have hri := H0.out.2.2.2.2.2.2.1 ha
   have HA := Lib.hid ha
   simp only [if_true]
   have HT := Lib.hid (rtrunc_any H2.out.1 hri H2.out.2.2.2.2.1 hc)
   have k3 := (pl_cells H2.out.2.2.1).2.2.2.1
   clear ha hri
   go_wp2_with fail
   refine HT.out.mono ?_
   rintro en w3 ⟨rfl, hl3, ⟨P3, hd3, hp3⟩, f3⟩
   obtain ⟨hd1, hp1, h2, hm2, hl2, fS⟩ := H2.out
   have hs2 := fS.size
   have hp9 : ∀ b, P1 b ∨ b = lb → b < w.heap.size → P b ∨ b = lb := fun b q hb => by
    rcases q with q | q
    · rcases hp1 b q with y | y
      · exact .inl y
      · omega
    · exact .inr q
   have hpl : p < w.heap.size := H0.out.1.lt
   have hml : M2 < w.heap.size := H0.out.2.2.2.2.2.1.lt
   have h3 := h2.keep f3 (fun q => (hp9 p q hpl).elim H0.out.2.2.2.1 (fun e => H0.out.2.2.2.2.2.2.2.1 e))
   have hm3 := hm2.keep f3 (fun q => (hp9 M2 q hml).elim H0.out.2.2.2.2.1 (fun e => H0.out.2.2.2.2.2.2.2.2.1 e))
   have hP3 : ∀ b, P3 b → P b ∨ w.heap.size ≤ b := fun b hb => by
    rcases hp3 b hb with y | y
    · exact hp1 b y
    · exact .inr (by omega)
   have fT : Fr (fun b => P b ∨ b = lb ∨ b = M2) w w3 := (fS.mono (fun _ _ q => .inl q)).trans f3 (fun b hb q => (hp9 b q hb).elim .inl (fun e => .inr (.inl e)))
   have H3 := Lib.hid (And.intro hl3 (And.intro hd3 (And.intro hP3 (And.intro h3 (And.intro hm3 fT)))))
   clear hl3 hd3 hp3 f3 hd1 hp1 h2 hm2 hl2 fS hs2 hp9 hpl hml h3 hm3 hP3 fT HT k3
   cases hs : d1.flushed.settles 0 [hdS (c + 1) (c + 1)] with
   | false =>
     simp only [Bool.false_eq_true, if_false]
     have HB := Lib.hid hs
     clear hs
     go_wp2_with fail
     go_ret
     obtain ⟨hl3, hd3, hP3, h3, hm3, fT⟩ := H3.out
     have e1 := HO.out.1
     have e2 := HO.out.2.1
     rw [HA.out, HB.out] at e1
     rw [HA.out] at e2
     simp only [Bool.true_and] at e1
     simp only [if_true] at e2
     have e3 := HO.out.2.2.1
     have e4 := HO.out.2.2.2
     rw [e1] at e3 e4
     simp only [Bool.false_eq_true, if_false, if_true] at e3
     rw [e3, e2, e4]
     exact ⟨rfl, h3, (by intro q; cases q), ⟨P3, hd3, hP3⟩, fT⟩
   | true =>
     have HL : Hid (LgW w3 lb g z (c + 1) (c + 1) 0 0 false) := Lib.hid (by
      have := H3.out.1
      rw [hs] at this
      simpa using this)
     simp only [if_true]
     have HB := Lib.hid hs
     have k5 := (pl_cells H3.out.2.2.2.1).2.2.2.2.2.1
     clear hs
     go_wp2_with (refine wpList_pm_clear rfl (.tmp 32) rfl H3.out.2.2.2.2.1 rfl ?_; intro w4 hm4 f4; have H4 := Lib.hid (And.intro hm4 f4); clear hm4 f4 k5)
     go_ret
     obtain ⟨hl3, hd3, hP3, h3, hm3, fT⟩ := H3.out
     have e1 := HO.out.1
     have e2 := HO.out.2.1
     rw [HA.out, HB.out] at e1
     rw [HA.out] at e2
     simp only [Bool.true_and] at e1
     simp only [if_true] at e2
     have e3 := HO.out.2.2.1
     have e4 := HO.out.2.2.2
     rw [e1] at e3 e4
     simp only [Bool.false_eq_true, if_false, if_true] at e3
     rw [e3, e2, e4]
     have hnM : ¬ P3 M2 := fun q => by
      have hlt : M2 < w.heap.size := H0.out.2.2.2.2.2.1.lt
      rcases hP3 M2 q with y | y
      · exact H0.out.2.2.2.2.1 y
      · omega
     exact ⟨rfl, h3.keep H4.out.2 (fun e => hm3.ne_blk h3 e.symm), (by intro _; exact ⟨HL.out.keep H4.out.2 (fun e => hm3.ne_blk HL.out e.symm), H4.out.1⟩), ⟨P3, ⟨hd3.1.keep H4.out.2 (fun i hi e => hnM (e ▸ hi)), fun b t cs hb hk => hd3.2 b t cs hb (by
      have hbM : b ≠ M2 := fun e => hnM (e ▸ hb)
      have := H4.out.2.block b (hd3.1.2 b hb).2 hbM
      exact this.symm.trans hk)⟩, hP3⟩, fT.trans H4.out.2 (fun _ _ q => .inr (.inr q))⟩
end
end Go.Proofs.YtcnlgbjkjlbmbaaGreat


