/- R3: laid together out of Qha Qas Qpu Qac Qab Qge Qpt. -/
import Derived.Test.YtcnlgbjkjlbmbaaGreatR2
namespace Go.Proofs.YtcnlgbjkjlbmbaaGreat
open Go.RowKit

section
variable {w : World} {p g z fr lb M1 M2 : Nat} {v : Value} {dd : Bool}
def phasE (dd : Bool) (c : Nat) (n : Int) : Int := if dd then 10 else if n < 0 ∨ (c : Int) ≤ n then 2 else 0
set_option maxRecDepth 100000 in
theorem plhas_any {B : Nat} {P : Nat → Prop} {d : DS} (h : PlB w p g z fr lb M1 M2 v dd) (hd : DAt w B P g d) (hpP : ¬ P p) (n : Int) : Calls Tryz.prog 49 #[.pointer (some ⟨p, 0, none⟩), .int .i64 n] w fun e w' => e = .returned (.int .i64 (phasE (dd || d.dd) (pcnt d.rd.length z) n)) ∧ PlB w' p g z fr lb M1 M2 v (dd || d.dd) ∧ Fr (fun b => b = p) w w' := by
 have HR := Lib.hid (plrefuses_any h hd)
 obtain ⟨b, hb⟩ : ∃ b, b = (dd || d.dd) := ⟨_, rfl⟩
 obtain ⟨c, hc⟩ : ∃ c, c = pcnt d.rd.length z := ⟨_, rfl⟩
 rw [← hb] at HR ⊢
 rw [← hc]
 have H0 := Lib.hid (And.intro hd (And.intro hc hpP))
 clear h hd hb hc hpP
 go_enter Tryz.func49, Tryz.ntmps49
 go_wp2_with fail
 refine HR.out.mono ?_
 rintro e w2 ⟨rfl, h2, f2⟩
 have HPA := Lib.hid (plpages_any h2 (H0.out.1.keep f2 (fun k hk e => H0.out.2.2 (e ▸ hk))))
 rw [← H0.out.2.1] at HPA
 have H2 := Lib.hid (And.intro h2 f2)
 clear h2 f2
 cases b
 · by_cases hn : n < 0
   · have hr : phasE false c n = 2 := by simp [phasE, hn]
     have HE := Lib.hid hr
     clear hr
     go_wp2_with fail
     go_ret
     exact ⟨by rw [HE.out]; rfl, H2.out.1, H2.out.2⟩
   · by_cases hcn : (c : Int) ≤ n
     · have hr : phasE false c n = 2 := by simp [phasE, hcn]
       have HE := Lib.hid hr
       clear hr
       go_wp2_with fail
       refine HPA.out.mono ?_
       rintro e w3 ⟨rfl, rfl⟩
       go_wp2_with fail
       go_ret
       exact ⟨by rw [HE.out]; rfl, H2.out.1.keep (F := fun _ => False) ((Fr.refl _ _).drew) (fun q => q), H2.out.2.drew⟩
     · have hr : phasE false c n = 0 := by simp [phasE, hn, hcn]
       have HE := Lib.hid hr
       clear hr
       go_wp2_with fail
       refine HPA.out.mono ?_
       rintro e w3 ⟨rfl, rfl⟩
       go_wp2_with fail
       go_ret
       exact ⟨by rw [HE.out]; rfl, H2.out.1.keep (F := fun _ => False) ((Fr.refl _ _).drew) (fun q => q), H2.out.2.drew⟩
 · have hr : phasE true c n = 10 := by simp [phasE]
   have HE := Lib.hid hr
   clear hr
   go_wp2_with fail
   go_ret
   exact ⟨by rw [HE.out]; rfl, H2.out.1, H2.out.2⟩
end
end Go.Proofs.YtcnlgbjkjlbmbaaGreat

namespace Go.Proofs.YtcnlgbjkjlbmbaaGreat
open Go.RowKit

section
variable {w : World} {p g z fr lb M1 M2 : Nat} {v : Value} {dd : Bool}
set_option maxRecDepth 100000 in
theorem results_ask {tmps : Array Value} {w : World} {b : Nat} {x : List UInt8} {v : Value} (h4 : tmps.getD 4 undef = .pointer (some ⟨b, 0, none⟩)) (h5 : tmps.getD 5 undef = v) (hl : x.length = 512)
 (hb : Blk w b 50 (cellsB x).toArray) : (results Tryz.f50 tmps).run Tryz.prog w = .ok (.tuple #[av x, v]) w := by
 have e := run_loadVar_row (P := Tryz.prog) w b 50 50 (cellsB x).toArray (0, 0) _ hb Tryz.underlying50 rfl (by rw [infoPgS]; simp [cellsB_len, hl])
 have h4' : tmps[4]?.getD undef = .pointer (some ⟨b, 0, none⟩) := by simpa using h4
 have h5' : tmps[5]?.getD undef = v := by simpa using h5
 simp [results, Tryz.f50, h4', h5', asAddr, e]
def askP (d : DS) (z : Nat) (f : Nat → List UInt8) (cl : List (Nat × List UInt8)) (n : Nat) : List UInt8 := if f n ≠ [] then f n else (liftC d z cl n).2
def askL (d : DS) (z fr : Nat) (f : Nat → List UInt8) (cl : List (Nat × List UInt8)) (n : Nat) : List (Nat × List UInt8) :=
 if f n ≠ [] then cl else if fr < (liftL cl n ++ [liftC d z cl n]).length then (liftL cl n ++ [liftC d z cl n]).eraseIdx 0 else liftL cl n ++ [liftC d z cl n]
set_option maxRecDepth 100000 in
theorem pgOr_len {x : List UInt8} (h : x ≠ [] → x.length = 512) : (pgOr x).length = 512 := by
 unfold pgOr
 split
 · exact nought_len 512
 · exact h ‹_›
set_option maxRecDepth 100000 in
set_option maxHeartbeats 4000000 in
theorem plask_dirty {B : Nat} {P : Nat → Prop} {d : DS} {cl : List (Nat × List UInt8)} {N : Nat} {f : Nat → List UInt8} (h : PlB w p g z fr lb M1 M2 v dd) (hf : FrV w v cl) (hd : DAt w B P g d) (hm : PMap w M2 N f) (hN : N ≤ 8192) {n : Nat} (hz : z ≤ 4000) (hn : n ≤ 2000) (hl : 1 + z + 4 * n + 4 ≤ d.rd.length) (hcl : cl.length ≤ 10000) (hfr : fr ≤ 10000) (hfn : f n ≠ []) :
 Calls Tryz.prog 50 #[.pointer (some ⟨p, 0, none⟩), .int .i64 (n : Nat)] w fun e w' => ∃ v', e = .returned (.tuple #[av (askP d z f cl n), .int .i64 0]) ∧ FrV w' v' (askL d z fr f cl n) ∧ PlB w' p g z fr lb M1 M2 v' dd ∧ (v'.ownBlock = v.ownBlock ∨ ∃ k, v'.ownBlock = some k ∧ w.heap.size ≤ k) ∧ Fr (fun k => k = p ∨ v.ownBlock = some k) w w' := by
 have HH := Lib.hid (And.intro h hf)
 obtain ⟨x, hx⟩ : ∃ x, x = pgOr (f n) := ⟨_, rfl⟩
 have hxl : x.length = 512 := by rw [hx]; exact pgOr_len (fun q => (hm.some_lt q).2)
 obtain ⟨W0, hW0⟩ : ∃ W0, W0 = w.alloc (.cells Tryz.zeroCells50 50) := ⟨_, rfl⟩
 have f0 : Fr (fun _ => False) w W0 := by rw [hW0]; exact (Fr.refl _ w).alloc _
 have hb0 : Blk W0 w.heap.size 50 (cellsB (nought 512)).toArray := by rw [hW0, zeroPgCells]; exact Blk.new w _ _
 have hs0 : w.heap.size + 1 = W0.heap.size := by rw [hW0]; simp
 obtain ⟨W1, hW1, hb1, hr1, f1, th1⟩ := put_arr W0 50 Tryz.zeroCells50 512 zeroPgCells x hxl
 rw [← hs0] at hW1 hb1 hr1 th1
 have hp0 := h.keep f0 (fun q => q)
 have k5 := (pl_cells hp0).2.2.2.2.2.1
 have F1 := f0.trans f1 (fun _ _ q => q)
 have HM := Lib.hid (hm.keep f0 (fun q => q))
 have HW := Lib.hid (And.intro hW1 (And.intro hb1 (And.intro hr1 (And.intro th1 hxl))))
 have H1 := Lib.hid (And.intro (h.keep F1 (fun q => q)) (And.intro (hf.keep F1 (fun _ _ q => q) (fun _ _ _ q => q)) (And.intro (hd.new F1) (And.intro F1 (And.intro (hb0.keep f1 (fun q => q)) (And.intro hl (And.intro hx hs0)))))))
 have HFN : Hid (decide (f n ≠ []) = true) := Lib.hid (decide_eq_true hfn)
 have HF1 := Lib.hid hfn
 rw [hW0] at k5
 clear h hf hd hm hl hx hxl hW1 hb1 hr1 th1 hp0 f0 f1 hb0 F1 hs0 hfn
 go_enter Tryz.func50, Tryz.ntmps50
 rw [hW0] at HM HW
 clear hW0
 have hxe : x = f n := by rw [H1.out.2.2.2.2.2.2.1]; unfold pgOr; rw [if_neg HF1.out]
 have haP : askP d z f cl n = x := by unfold askP; rw [if_pos HF1.out, hxe]
 have haL : askL d z fr f cl n = cl := by unfold askL; rw [if_pos HF1.out]
 have hth := H1.out.2.2.2.2.1.there (o := 0) (n := 512) (by simp [cellsB_len, nought_len])
 have HA := Lib.hid (And.intro haP (And.intro haL hth))
 clear hxe haP haL hth
 go_wp2_with (first
  | (at_lookup; refine wpList_pm_look rfl _ _ true rfl HM.out (by omega) rfl rfl (by omega) ?_; rw [← H1.out.2.2.2.2.2.2.1, HFN.out]; simp only [if_true])
  | (refine wpList_store_mid rfl 50 _ _ rfl (w.heap.size + 1) 0 (cellsB x).toArray rfl rfl HW.out.2.2.2.1 (by rw [infoPgS]; simp [cellsB_len, HW.out.2.2.2.2]) (all_oneCell_toArray (cellsB_one _)) ?_; rw [← HW.out.1])
  | (refine wpList_load_mid rfl 50 _ rfl (w.heap.size + 1) 0 rfl (cellsB x) _ HW.out.2.2.1 Tryz.underlying50 rfl (by rw [infoPgS, cellsB_len, HW.out.2.2.2.2]) ?_)
  | (refine wpList_store_mid rfl 50 _ _ rfl w.heap.size 0 (cellsB x).toArray rfl rfl (by simp only [List.size_toArray, cellsB_len, HW.out.2.2.2.2]; exact HA.out.2.2) (by rw [infoPgS]; simp [cellsB_len, HW.out.2.2.2.2]) (all_oneCell_toArray (cellsB_one _)) ?_))
 have hbe := H1.out.2.2.2.2.1.over (o := 0) (m := x) (by rw [nought_len, HW.out.2.2.2.2]; omega)
 rw [patch_all (by rw [nought_len, HW.out.2.2.2.2])] at hbe
 have fe : Fr (fun _ => False) w (W1.setCells w.heap.size 0 (cellsB x)) := Fr.setCells (.inr (Nat.le_refl _)) H1.out.2.2.2.1
 have fe1 : Fr (fun q => W0.heap.size ≤ q + 1 ∧ q + 1 ≤ W0.heap.size) W1 (W1.setCells w.heap.size 0 (cellsB x)) := Fr.setCells (F := fun q => W0.heap.size ≤ q + 1 ∧ q + 1 ≤ W0.heap.size) (.inl (by have := H1.out.2.2.2.2.2.2.2; omega)) (Fr.refl _ _)
 refine bodyPost_ret (results_ask rfl rfl HW.out.2.2.2.2 hbe) rfl ?_
 rw [HA.out.1, HA.out.2.1]
 have H9 := HH.out
 exact ⟨v, rfl, H9.2.keep fe (fun _ _ q => q) (fun _ _ _ q => q), H9.1.keep fe (fun q => q), .inl rfl, fe.mono (fun _ _ q => q.elim)⟩
end
end Go.Proofs.YtcnlgbjkjlbmbaaGreat

namespace Go.Proofs.YtcnlgbjkjlbmbaaGreat
open Go.RowKit

section
variable {ops : Array Oper} {o : Oper} {a : Act} {Q : Exit → Act → World → Prop}
set_option maxRecDepth 100000 in
theorem wpList_push_fr {rest : List Oper} {w : World} (hg : o.guard = none) (s x : Operand) (hop : o.op = Op.call { callee := Callee.builtin Builtin.append, args := #[s, x], argTypes := #[63, 63] }) {v : Value} {n : Nat} {xs : List Value} (hs : a.eval s = v)
 (hown : w.ownsRow 0 93 1 v n xs) {g b : Nat} (hx : a.eval x = .slice (some ⟨g, 0, none⟩) 1 1) (hu : w.cell? ⟨g, 0, none⟩ = some (frP b)) (hn : n ≤ 100000)
 (hK : ∀ v' w', w'.ownsRow 0 93 1 v' (n + 1) (xs ++ [frP b]) → w.grownBy w' v.ownBlock → (v'.ownBlock = v.ownBlock ∨ v'.ownBlock = some w.heap.size) → wpList Tryz.prog ops Q rest (a.put o.dst v') w') : wpList Tryz.prog ops Q (o :: rest) a w := by
 refine wpList_plain hg fun K' hK' => ?_
 obtain ⟨i0, hi, hz0, hz1, hz2⟩ := info_parts infoFp
 obtain ⟨v', w', hrun, ho', hgr, _, hat⟩ := run_append_own_at (P := Tryz.prog) w 0 63 o.type 93 i0 (.pointer none) 1 8 Tryz.underlying63 hi hz0 hz1 hz2 rfl (by omega) v n xs hown ⟨g, 0, none⟩ 1 1 [frP b] rfl (fun j u hj => by
  cases j with
  | zero => simp at hj; subst hj; rw [addr_add]; exact hu
  | succ j => simp at hj) (fun u hq => by rw [List.mem_singleton.1 hq]; rfl) (by simp only [maxLen]; omega) (by omega) (Nat.zero_le _)
 unfold Oper.wp
 simp [execOp, hop, resolve, invoke, builtin, hs, hx, hrun, Result.andThen]
 exact hK' _ _ (hK v' w' ho' hgr hat)
end
end Go.Proofs.YtcnlgbjkjlbmbaaGreat

namespace Go.Proofs.YtcnlgbjkjlbmbaaGreat
open Go.RowKit

section
variable {w : World} {p g z fr lb M1 M2 : Nat} {v : Value} {dd : Bool}
set_option maxRecDepth 100000 in
theorem slice_of_fr (b : Nat) (w : World) : (Instr.buildSlice 63 1 #[(0, frP b)]).run Tryz.prog w = .ok (.slice (some ⟨w.heap.size, 0, none⟩) 1 1) (w.alloc (.cells #[frP b] 93)) := by
 obtain ⟨i0, hi, hz0, hz1, hz2⟩ := info_parts infoFp
 refine run_buildSlice w 63 93 1 _ _ i0 _ Tryz.underlying63 hi hz0 (by rw [hz1]; omega) (by rw [hz1]; omega) ?_
 rw [hz1]
 have hb : ((Array.range (1 * 1)).map ((Value.pointer none).cells[· % (Value.pointer none).cells.size]!)) = #[Value.pointer none] := by
  apply Array.ext
  · simp
  · intro i h1 h2
    simp at h1
    simp [Value.cells, h1]
 rw [hb]
 simp [Instr.fill, Value.cells]
set_option maxRecDepth 100000 in
set_option maxHeartbeats 4000000 in
theorem plask_clean {B : Nat} {P : Nat → Prop} {d : DS} {cl : List (Nat × List UInt8)} {N : Nat} {f : Nat → List UInt8} (h : PlB w p g z fr lb M1 M2 v dd) (hf : FrV w v cl) (hd : DAt w B P g d) (hm : PMap w M2 N f) (hN : N ≤ 8192) {n : Nat} (hz : z ≤ 4000) (hn : n ≤ 2000) (hl : 1 + z + 4 * n + 4 ≤ d.rd.length) (hcl : cl.length ≤ 10000) (hfr : fr ≤ 10000) (hfn : f n = []) :
 Calls Tryz.prog 50 #[.pointer (some ⟨p, 0, none⟩), .int .i64 (n : Nat)] w fun e w' => ∃ v', e = .returned (.tuple #[av (askP d z f cl n), .int .i64 0]) ∧ FrV w' v' (askL d z fr f cl n) ∧ PlB w' p g z fr lb M1 M2 v' dd ∧ (v'.ownBlock = v.ownBlock ∨ ∃ k, v'.ownBlock = some k ∧ w.heap.size ≤ k) ∧ Fr (fun k => k = p ∨ v.ownBlock = some k) w w' := by
 have HH := Lib.hid (And.intro h hf)
 obtain ⟨x, hx⟩ : ∃ x, x = pgOr (f n) := ⟨_, rfl⟩
 have hxl : x.length = 512 := by rw [hx]; exact pgOr_len (fun q => (hm.some_lt q).2)
 obtain ⟨W0, hW0⟩ : ∃ W0, W0 = w.alloc (.cells Tryz.zeroCells50 50) := ⟨_, rfl⟩
 have f0 : Fr (fun _ => False) w W0 := by rw [hW0]; exact (Fr.refl _ w).alloc _
 have hb0 : Blk W0 w.heap.size 50 (cellsB (nought 512)).toArray := by rw [hW0, zeroPgCells]; exact Blk.new w _ _
 have hs0 : w.heap.size + 1 = W0.heap.size := by rw [hW0]; simp
 obtain ⟨W1, hW1, hb1, hr1, f1, th1⟩ := put_arr W0 50 Tryz.zeroCells50 512 zeroPgCells x hxl
 rw [← hs0] at hW1 hb1 hr1 th1
 have hp0 := h.keep f0 (fun q => q)
 have k5 := (pl_cells hp0).2.2.2.2.2.1
 have F1 := f0.trans f1 (fun _ _ q => q)
 have HM := Lib.hid (hm.keep f0 (fun q => q))
 have HW := Lib.hid (And.intro hW1 (And.intro hb1 (And.intro hr1 (And.intro th1 hxl))))
 have H1 := Lib.hid (And.intro (h.keep F1 (fun q => q)) (And.intro (hf.keep F1 (fun _ _ q => q) (fun _ _ _ q => q)) (And.intro (hd.new F1) (And.intro F1 (And.intro (hb0.keep f1 (fun q => q)) (And.intro hl (And.intro hx hs0)))))))
 have HFN : Hid (decide (f n ≠ []) = false) := Lib.hid (by rw [hfn]; rfl)
 have HF1 := Lib.hid hfn
 have HLI := Lib.hid (pllift_any (n := n) (h.keep F1 (fun q => q)) (hf.keep F1 (fun _ _ q => q) (fun _ _ _ q => q)) (hd.new F1) hz hn hl (by omega))
 rw [hW0] at k5
 clear h hf hd hm hl hx hxl hW1 hb1 hr1 th1 hp0 f0 f1 hb0 F1 hs0 hfn
 go_enter Tryz.func50, Tryz.ntmps50
 rw [hW0] at HM HW
 clear hW0
 go_wp2_with (first
  | (at_lookup; refine wpList_pm_look rfl _ _ true rfl HM.out (by omega) rfl rfl (by omega) ?_; rw [← H1.out.2.2.2.2.2.2.1, HFN.out]; simp only [if_true])
  | (refine wpList_store_mid rfl 50 _ _ rfl (w.heap.size + 1) 0 (cellsB x).toArray rfl rfl HW.out.2.2.2.1 (by rw [infoPgS]; simp [cellsB_len, HW.out.2.2.2.2]) (all_oneCell_toArray (cellsB_one _)) ?_; rw [← HW.out.1]))
 refine HLI.out.mono ?_
 rintro e w2 ⟨b, v2, rfl, hb2, hl2, hf2, hp2, hv2, f2⟩
 have hbs := slice_of_fr b w2
 have fa : Fr (fun _ => False) w2 (w2.alloc (.cells #[frP b] 93)) := (Fr.refl _ w2).alloc _
 have k6 := (pl_cells hp2).2.2.2.2.2.2.1
 obtain ⟨bs, hown, hbl, hall⟩ := hf2
 have hown3 := own_keep hown fa (fun _ _ q => q)
 have hcu : (w2.alloc (.cells #[frP b] 93)).cell? ⟨w2.heap.size, 0, none⟩ = some (frP b) := by
  rw [(Blk.new w2 93 #[frP b]).cell]
  rfl
 obtain ⟨ll, hll⟩ : ∃ ll, ll = (liftL cl n).length := ⟨_, rfl⟩
 have hll2 : ll ≤ 10000 := by
  have : (liftL cl n).length ≤ cl.length := by
   unfold liftL
   split
   · rw [List.length_eraseIdx]; split <;> omega
   · omega
  omega
 have H2 := Lib.hid (And.intro hb2 (And.intro hl2 (And.intro hp2 (And.intro hv2 (And.intro f2 (And.intro hown (And.intro hbl (And.intro hall (And.intro fa hll)))))))))
 rw [← hll] at hown3
 have H3 := Lib.hid (And.intro hown3 hcu)
 obtain ⟨A2, m2, c2, hv2e⟩ := own_form hown3
 clear k5 hb2 hl2 hp2 hv2 f2 hown hbl hall fa hll hown3 hcu
 subst hv2e
 go_wp2_with (first
  | (at_builtin; refine wpList_push_fr rfl (.tmp 35) (.tmp 37) rfl rfl H3.out.1 rfl H3.out.2 (by omega) ?_; intro v3 w3 ho3 hg3 hat3; obtain ⟨A3, c3, hv3e, _, _⟩ := own_slice ho3; have f3 := (Fr.refl (fun k => (Value.slice A2 m2 c2).ownBlock = some k) (w2.alloc (.cells #[frP b] 93))).grown hg3 (fun k hk => .inl hk); have hp3 := (H2.out.2.2.1.keep H2.out.2.2.2.2.2.2.2.2.1 (fun q => q)).keep f3 (own_ne H2.out.2.2.2.2.2.1 H2.out.2.2.1 (by decide)); have hp4 : PlB (w3.setCell ⟨p, 6, none⟩ v3) p g z fr lb M1 M2 v3 dd := hp3.set_ 6 v3; have z6 := hp3.frozen 6; have k6' := (pl_cells hp3).2.2.2.2.2.2.1; have H4 := Lib.hid (And.intro ho3 (And.intro f3 (And.intro hat3 (And.intro hp3 hp4)))); clear ho3 hg3 hat3 f3 hp3 hp4 k6; subst hv3e))
 have k2 := (pl_cells H4.out.2.2.2.1).2.2.1
 have k6 := (pl_cells H4.out.2.2.2.2).2.2.2.2.2.2.1
 obtain ⟨m3, hm3⟩ : ∃ m3, m3 = ll + 1 := ⟨_, rfl⟩
 have H5 := Lib.hid (And.intro hm3 hll2)
 rw [← hm3] at k6 ⊢
 have H4' := Lib.hid (hm3 ▸ H4.out)
 clear hm3 hll2 k6' z6
 have HK : Hid (∀ (q : Nat) (t : TypeId) (cs : Array Value), Blk w2 q t cs → 93 ≠ t → t ≠ 65 → Blk (w3.setCell ⟨p, 6, none⟩ (.slice A3 m3 c3)).drew q t cs) := Lib.hid fun q t cs hq h1 h2 => by
  have q1 := hq.keep H2.out.2.2.2.2.2.2.2.2.1 (fun q => q)
  have q2 := q1.keep H4.out.2.1 (own_ne H2.out.2.2.2.2.2.1 hq h1)
  have q3 := q2.keep ((Fr.refl (fun q => q = p) w3).setCell (p := ⟨p, 6, none⟩) (.inl rfl) (.slice A3 m3 c3)) (fun e => h2 (blk_type (e ▸ q2) H4.out.2.2.2.1))
  exact q3.keep (F := fun _ => False) ((Fr.refl _ _).drew) (fun q => q)
 have HR2 : Hid (Blk w2 w.heap.size 50 (cellsB (nought 512)).toArray) := Lib.hid (H1.out.2.2.2.2.1.keep H2.out.2.2.2.2.1 (fun e => by
  rcases e with e | e
  · exact absurd (blk_type (e ▸ H1.out.2.2.2.2.1) H1.out.1) (by decide)
  · obtain ⟨bs0, ho0, _⟩ := H1.out.2.1
    exact own_ne ho0 H1.out.2.2.2.2.1 (by decide) e))
 obtain ⟨y, hy⟩ : ∃ y, y = (liftC d z cl n).2 := ⟨_, rfl⟩
 have hyl : y.length = 512 := by rw [hy]; exact H2.out.2.1
 by_cases hov : (fr : Int) < (m3 : Int)
 · obtain ⟨w4, hw4⟩ : ∃ w4, w4 = (w3.setCell ⟨p, 6, none⟩ (.slice A3 m3 c3)).drew := ⟨_, rfl⟩
   have f4 : Fr (fun q => q = p) w3 w4 := by rw [hw4]; exact ((Fr.refl (fun q => q = p) w3).setCell (p := ⟨p, 6, none⟩) (.inl rfl) (.slice A3 m3 c3)).drew
   have hp5 : PlB w4 p g z fr lb M1 M2 (.slice A3 m3 c3) dd := by rw [hw4]; exact H4'.out.2.2.2.2.keep (F := fun _ => False) ((Fr.refl _ _).drew) (fun q => q)
   have hve : ∀ k, (Value.slice A3 m3 c3).ownBlock = some k → k = p → False := fun k hk e => by
    rcases H4'.out.2.2.1 with q | q
    · exact own_ne H2.out.2.2.2.2.2.1 H2.out.2.2.1 (by decide) (q.symm.trans (hk.trans (by rw [e])))
    · have hk' := q.symm.trans hk
      have := H2.out.2.2.1.lt
      have h9 := H2.out.2.2.2.2.2.2.2.2.1.size
      injection hk' with hk'
      omega
   have ho4 : w4.ownsRow 0 93 1 (.slice A3 m3 c3) (bs ++ [b]).length ((bs ++ [b]).map frP) := by
    have q := own_keep H4'.out.1 f4 (fun k hk e => hve k hk e)
    have hl9 : (bs ++ [b]).length = m3 := by rw [List.length_append, List.length_singleton, H2.out.2.2.2.2.2.2.1, ← H2.out.2.2.2.2.2.2.2.2.2, H5.out.1]
    rw [hl9, List.map_append]
    exact q
   have HDE : Hid (Calls Tryz.prog 80 #[.slice A3 m3 c3, .int .i64 0, .int .i64 1] w4 fun e w' => ∃ v', e = .returned v' ∧ w'.ownsRow 0 93 1 v' ((bs ++ [b]).length - 1) (((bs ++ [b]).take 0 ++ (bs ++ [b]).drop (0 + 1)).map frP) ∧ v'.ownBlock = (Value.slice A3 m3 c3).ownBlock ∧ Fr (fun k => (Value.slice A3 m3 c3).ownBlock = some k) w4 w') := Lib.hid (fdelete_any (i := 0) ho4 (by simp))
   rw [hw4] at HDE
   have H6 := Lib.hid (And.intro f4 (And.intro hp5 (And.intro hve ho4)))
   have HW4 := Lib.hid hw4
   clear f4 hp5 hve ho4 hw4
   go_region
   go_wp2_with fail
   refine HDE.out.mono ?_
   rintro e w5 ⟨v5, rfl, ho5, hb5, f5⟩
   rw [← HW4.out] at f5
   have hp6 := H6.out.2.1.keep f5 (own_ne H6.out.2.2.2 H6.out.2.1 (by decide))
   obtain ⟨A5, m5, c5, hv5⟩ := own_form ho5
   have hp7 : PlB (w5.setCell ⟨p, 6, none⟩ v5) p g z fr lb M1 M2 v5 dd := hp6.set_ 6 v5
   have f7 := (Fr.refl (fun q => q = p) w5).setCell (p := ⟨p, 6, none⟩) (.inl rfl) v5
   have k6' := (pl_cells hp6).2.2.2.2.2.2.1
   have z6 := hp6.frozen 6
   have HKK : ∀ (q : Nat) (t : TypeId) (cs : Array Value), Blk w2 q t cs → 93 ≠ t → t ≠ 65 → Blk (w5.setCell ⟨p, 6, none⟩ v5) q t cs := fun q t cs hq h1 h2 => by
    have q4 := HK.out q t cs hq h1 h2
    rw [← HW4.out] at q4
    have q5 := q4.keep f5 (own_ne H6.out.2.2.2 q4 h1)
    exact q5.keep f7 (fun e => h2 (blk_type (e ▸ q5) hp6))
   have hbF := HKK b _ _ H2.out.1 (by decide) (by decide)
   have hbR := HKK w.heap.size _ _ HR2.out (by decide) (by decide)
   have hrg : (w5.setCell ⟨p, 6, none⟩ v5).rangeAt b 1 (cellsB y) := fun j u hj => by
    rw [hbF.cell, Nat.add_comm 1 j]
    simpa [hy] using hj
   have hth := hbR.there (o := 0) (n := 512) (by simp [cellsB_len, nought_len])
   have H7 := Lib.hid (And.intro hrg (And.intro hth (And.intro hbR (And.intro hy (And.intro HKK (And.intro hp7 (And.intro f7 (And.intro ho5 (And.intro hb5 (And.intro f5 hp6))))))))))
   subst hv5
   clear hbF hbR hrg hth hy HKK hp7 f7 ho5 hb5 f5 hp6 k2 k6
   go_wp2_with (first
    | (refine wpList_load_mid rfl 50 _ rfl b 1 rfl (cellsB y) _ H7.out.1 Tryz.underlying50 rfl (by rw [infoPgS, cellsB_len, hyl]) ?_)
    | (refine wpList_store_mid rfl 50 _ _ rfl w.heap.size 0 (cellsB y).toArray rfl rfl (by simp only [List.size_toArray, cellsB_len, hyl]; exact H7.out.2.1) (by rw [infoPgS]; simp [cellsB_len, hyl]) (all_oneCell_toArray (cellsB_one _)) ?_))
   have hbe := H7.out.2.2.1.over (o := 0) (m := y) (by rw [nought_len, hyl]; omega)
   rw [patch_all (by rw [nought_len, hyl])] at hbe
   refine bodyPost_ret (results_ask rfl rfl hyl hbe) rfl ?_
   obtain ⟨hb2, hl2, hp2, hv2, f2, hown, hbl, hall, fa, hll⟩ := H2.out
   obtain ⟨ho3, f3, hat3, hp3, hp4⟩ := H4'.out
   obtain ⟨-, -, hbR, hy, HKK, hp7, f7, ho5, hb5, f5, hp6⟩ := H7.out
   obtain ⟨f4, hp5, hve, ho4⟩ := H6.out
   have haP : askP d z f cl n = y := by unfold askP; rw [if_neg (by rw [HF1.out]; simp), hy]
   have haL : askL d z fr f cl n = (liftL cl n ++ [liftC d z cl n]).eraseIdx 0 := by
    have := H5.out.1
    unfold askL
    rw [if_neg (by rw [HF1.out]; simp), if_pos (by rw [List.length_append, List.length_singleton, ← hll]; omega)]
   rw [haP, haL]
   obtain ⟨w6, hw6⟩ : ∃ w6, w6 = w5.setCell ⟨p, 6, none⟩ (.slice A5 m5 c5) := ⟨_, rfl⟩
   rw [← hw6] at hbR HKK hp7 f7
   rw [← hw6]
   have fe : Fr (fun q => q = w.heap.size) w6 (w6.setCells w.heap.size 0 (cellsB y)) := Fr.setCells (F := fun q => q = w.heap.size) (.inl rfl) (Fr.refl _ _)
   have ho6 := own_keep ho5 f7 (fun k hk e => hve k (hb5.symm.trans hk) e)
   have ho7 := own_keep ho6 fe (fun k hk e => own_ne ho6 hbR (by decide) (by rw [hk, e]))
   have hfr : ∀ (q : Nat) (cs : Array Value), Blk w2 q 95 cs → Blk (w6.setCells w.heap.size 0 (cellsB y)) q 95 cs := fun q cs hq =>
    (HKK q _ cs hq (by decide) (by decide)).keep fe (fun e => absurd (blk_type (e ▸ HKK q _ cs hq (by decide) (by decide)) hbR) (by decide))
   have hlen : ((liftL cl n ++ [liftC d z cl n]).eraseIdx 0).length = (bs ++ [b]).length - 1 := by rw [List.length_eraseIdx_of_lt (by simp), List.length_append, List.length_append, List.length_singleton, List.length_singleton, hbl]
   have hte : (bs ++ [b]).take 0 ++ (bs ++ [b]).drop (0 + 1) = (bs ++ [b]).eraseIdx 0 := (List.eraseIdx_eq_take_drop_succ _ _).symm
   rw [hte] at ho7
   refine ⟨.slice A5 m5 c5, rfl, ⟨(bs ++ [b]).eraseIdx 0, by rw [hlen]; exact ho7, by rw [hlen, List.length_eraseIdx_of_lt (by simp)], fun i b' c' h1 h2 => ?_⟩, hp7.keep fe (fun e => absurd (blk_type (e ▸ hp7) hbR) (by decide)), ?_, ?_⟩
   · rw [List.getElem?_eraseIdx, if_neg (Nat.not_lt_zero _)] at h1 h2
     by_cases hi : i + 1 < bs.length
     · rw [List.getElem?_append_left hi] at h1
       rw [List.getElem?_append_left (by omega)] at h2
       exact ⟨hfr _ _ (hall _ _ _ h1 h2).1, (hall _ _ _ h1 h2).2⟩
     · rw [List.getElem?_append_right (by omega)] at h1
       rw [List.getElem?_append_right (by omega), ← hbl] at h2
       have hi0 : i + 1 - bs.length = 0 := by
        have := (List.getElem?_eq_some_iff.1 h1).1
        simp at this
        omega
       rw [hi0] at h1 h2
       simp at h1 h2
       rw [← h1, ← h2]
       exact ⟨hfr _ _ hb2, hl2⟩
   · rcases hat3 with q | q
     · exact .inl (hb5.trans (q.trans hv2))
     · exact .inr ⟨_, hb5.trans q, by have := H1.out.2.2.2.1.size; have := f2.size; have := fa.size; omega⟩
   · have g1 : Fr (fun k => k = p ∨ v.ownBlock = some k) w w4 := ((((H1.out.2.2.2.1.mono (fun _ _ q => q.elim)).trans f2 (fun _ _ q => q)).trans fa (fun _ _ q => q.elim)).trans f3 (fun k hk q => .inr (by rw [← hv2]; exact q))).trans f4 (fun _ _ q => .inl q)
     refine ((g1.trans f5 (fun k hk q => ?_)).trans f7 (fun _ _ q => .inl q)).trans fe (fun k hk q => by omega)
     rcases hat3 with r | r
     · exact .inr (hv2.symm.trans (r.symm.trans q))
     · have hk' := r.symm.trans q
       injection hk' with hk'
       have := H1.out.2.2.2.1.size; have := f2.size; have := fa.size
       omega
 · have hbF := HK.out b _ _ H2.out.1 (by decide) (by decide)
   have hbR := HK.out w.heap.size _ _ HR2.out (by decide) (by decide)
   have hrg : (w3.setCell ⟨p, 6, none⟩ (.slice A3 m3 c3)).drew.rangeAt b 1 (cellsB y) := fun j u hj => by
    rw [hbF.cell, Nat.add_comm 1 j]
    simpa [hy] using hj
   have hth := hbR.there (o := 0) (n := 512) (by simp [cellsB_len, nought_len])
   have H6 := Lib.hid (And.intro hrg (And.intro hth (And.intro hbR (And.intro hy hyl))))
   clear hbF hbR hrg hth hy
   go_region
   go_wp2_with (first
    | (refine wpList_load_mid rfl 50 _ rfl b 1 rfl (cellsB y) _ H6.out.1 Tryz.underlying50 rfl (by rw [infoPgS, cellsB_len, hyl]) ?_)
    | (refine wpList_store_mid rfl 50 _ _ rfl w.heap.size 0 (cellsB y).toArray rfl rfl (by simp only [List.size_toArray, cellsB_len, hyl]; exact H6.out.2.1) (by rw [infoPgS]; simp [cellsB_len, hyl]) (all_oneCell_toArray (cellsB_one _)) ?_))
   have hbe := H6.out.2.2.1.over (o := 0) (m := y) (by rw [nought_len, hyl]; omega)
   rw [patch_all (by rw [nought_len, hyl])] at hbe
   refine bodyPost_ret (results_ask rfl rfl hyl hbe) rfl ?_
   obtain ⟨hb2, hl2, hp2, hv2, f2, hown, hbl, hall, fa, hll⟩ := H2.out
   obtain ⟨ho3, f3, hat3, hp3, hp4⟩ := H4'.out
   have haP : askP d z f cl n = y := by unfold askP; rw [if_neg (by rw [HF1.out]; simp), H6.out.2.2.2.1]
   have haL : askL d z fr f cl n = liftL cl n ++ [liftC d z cl n] := by
    have := H5.out.1
    unfold askL
    rw [if_neg (by rw [HF1.out]; simp), if_neg (by rw [List.length_append, List.length_singleton, ← hll]; omega)]
   rw [haP, haL]
   obtain ⟨w4, hw4⟩ : ∃ w4, w4 = (w3.setCell ⟨p, 6, none⟩ (.slice A3 m3 c3)).drew := ⟨_, rfl⟩
   have f4 : Fr (fun q => q = p) w3 w4 := by rw [hw4]; exact ((Fr.refl (fun q => q = p) w3).setCell (p := ⟨p, 6, none⟩) (.inl rfl) (.slice A3 m3 c3)).drew
   have hp5 : PlB w4 p g z fr lb M1 M2 (.slice A3 m3 c3) dd := by rw [hw4]; exact hp4.keep (F := fun _ => False) ((Fr.refl _ _).drew) (fun q => q)
   have hbR := H6.out.2.2.1
   have HKK := HK.out
   rw [← hw4] at hbR HKK
   rw [← hw4]
   have fe : Fr (fun q => q = w.heap.size) w4 (w4.setCells w.heap.size 0 (cellsB y)) := Fr.setCells (F := fun q => q = w.heap.size) (.inl rfl) (Fr.refl _ _)
   have hve : ∀ k, (Value.slice A3 m3 c3).ownBlock = some k → k = p → False := fun k hk e => by
    rcases hat3 with q | q
    · exact own_ne hown hp2 (by decide) (q.symm.trans (hk.trans (by rw [e])))
    · have hk' := q.symm.trans hk
      have := hp2.lt
      have h9 := fa.size
      injection hk' with hk'
      omega
   have ho4 := own_keep ho3 f4 (fun k hk e => hve k hk e)
   have ho5 := own_keep ho4 fe (fun k hk e => own_ne ho4 hbR (by decide) (by rw [hk, e]))
   have hfr : ∀ (q : Nat) (cs : Array Value), Blk w2 q 95 cs → Blk (w4.setCells w.heap.size 0 (cellsB y)) q 95 cs := fun q cs hq =>
    (HKK q _ cs hq (by decide) (by decide)).keep fe (fun e => absurd (blk_type (e ▸ HKK q _ cs hq (by decide) (by decide)) hbR) (by decide))
   have hlen : (liftL cl n ++ [liftC d z cl n]).length = m3 := by rw [List.length_append, List.length_singleton, ← hll, H5.out.1]
   refine ⟨rfl, .slice A3 m3 c3, ⟨bs ++ [b], by rw [hlen, List.map_append]; exact ho5, by rw [hlen, List.length_append, List.length_singleton, hbl, ← hll, H5.out.1], fun i b' c' h1 h2 => ?_⟩, hp5.keep fe (fun e => absurd (blk_type (e ▸ hp5) hbR) (by decide)), ?_, ?_⟩
   · by_cases hi : i < bs.length
     · rw [List.getElem?_append_left hi] at h1
       rw [List.getElem?_append_left (by omega)] at h2
       exact ⟨hfr _ _ (hall _ _ _ h1 h2).1, (hall _ _ _ h1 h2).2⟩
     · rw [List.getElem?_append_right (by omega)] at h1
       rw [List.getElem?_append_right (by omega), ← hbl] at h2
       have hi0 : i - bs.length = 0 := by
        have := (List.getElem?_eq_some_iff.1 h1).1
        simp at this
        omega
       rw [hi0] at h1 h2
       simp at h1 h2
       rw [← h1, ← h2]
       exact ⟨hfr _ _ hb2, hl2⟩
   · rcases hat3 with q | q
     · exact .inl (q.trans hv2)
     · exact .inr ⟨_, q, by have := H1.out.2.2.2.1.size; have := f2.size; have := fa.size; omega⟩
   · refine ((((((H1.out.2.2.2.1.mono (fun _ _ q => q.elim)).trans f2 (fun _ _ q => q)).trans fa (fun _ _ q => q.elim)).trans f3 (fun k hk q => .inr (by rw [← hv2]; exact q)))).trans f4 (fun _ _ q => .inl q)).trans fe (fun k hk q => by omega)
end
end Go.Proofs.YtcnlgbjkjlbmbaaGreat

namespace Go.Proofs.YtcnlgbjkjlbmbaaGreat
open Go.RowKit

section
variable {w : World} {p g z fr lb M1 M2 : Nat} {v : Value} {dd : Bool}
set_option maxRecDepth 100000 in
theorem plabort_any {B : Nat} {P : Nat → Prop} {d : DS} {N : Nat} {f : Nat → List UInt8} (h : PlB w p g z fr lb M1 M2 v dd) (hd : DAt w B P g d) (hm : PMap w M1 N f) (hMp : M1 ≠ p) : Calls Tryz.prog 22 #[.pointer (some ⟨p, 0, none⟩)] w fun e w' => e = .returned (.int .i64 (if (dd || d.dd) then 10 else 0)) ∧ PlB w' p g z fr lb M1 M2 v (dd || d.dd) ∧ PMap w' M1 N (if (dd || d.dd) then f else fun _ => []) ∧ Fr (fun b => b = p ∨ b = M1) w w' := by
 have HR := Lib.hid (plrefuses_any h hd)
 have HM := Lib.hid (And.intro hm hMp)
 obtain ⟨b, hb⟩ : ∃ b, b = (dd || d.dd) := ⟨_, rfl⟩
 rw [← hb] at HR ⊢
 clear h hd hb hm hMp
 go_enter Tryz.func22, Tryz.ntmps22
 go_wp2_with fail
 refine HR.out.mono ?_
 rintro e w2 ⟨rfl, h2, f2⟩
 have k4 := (pl_cells h2).2.2.2.2.1
 have hm2 := HM.out.1.keep f2 HM.out.2
 have H2 := Lib.hid (And.intro h2 (And.intro f2 hm2))
 clear h2 f2 hm2
 cases b
 · go_wp2_with (refine wpList_pm_clear rfl (.tmp 12) rfl H2.out.2.2 rfl ?_; intro w3 hm3 f3; have H3 := Lib.hid (And.intro hm3 f3); clear hm3 f3 k4)
   go_ret
   exact ⟨rfl, H2.out.1.keep H3.out.2 (fun e => HM.out.2 e.symm), H3.out.1, (H2.out.2.1.mono (fun _ _ q => .inl q)).trans H3.out.2 (fun _ _ q => .inr q)⟩
 · clear k4
   go_wp2_with fail
   go_ret
   exact ⟨rfl, H2.out.1, H2.out.2.2, H2.out.2.1.mono (fun _ _ q => .inl q)⟩
end
end Go.Proofs.YtcnlgbjkjlbmbaaGreat

namespace Go.Proofs.YtcnlgbjkjlbmbaaGreat
open Go.RowKit

set_option maxRecDepth 100000 in
theorem PMap.obj {w : World} {M N : Nat} {f : Nat → List UInt8} (h : PMap w M N f) : ∃ es c, w.heap[M]? = some (.map es c) := by
 obtain ⟨D, ⟨es, clock, hb, _⟩, _⟩ := h
 exact ⟨es, clock, hb⟩
set_option maxRecDepth 100000 in
theorem PMap.ne_blk {w : World} {M N b : Nat} {f : Nat → List UInt8} {t : TypeId} {cs : Array Value} (h : PMap w M N f) (hb : Blk w b t cs) : M ≠ b := fun e => by
 obtain ⟨es, c, h1⟩ := h.obj
 have h2 : w.heap[b]? = _ := hb
 rw [← e, h1] at h2
 cases h2
set_option maxRecDepth 100000 in
theorem PMap.ne_own {w : World} {M N base e n size : Nat} {f : Nat → List UInt8} {v : Value} {xs : List Value} (h : PMap w M N f) (ho : w.ownsRow base e size v n xs) : v.ownBlock ≠ some M := fun q => by
 obtain ⟨cs, hb⟩ := own_blk ho q
 exact h.ne_blk hb rfl
set_option maxRecDepth 100000 in
theorem askP_len {w : World} {B g z N : Nat} {P : Nat → Prop} {d : DS} {M : Nat} {v : Value} {f : Nat → List UInt8} {cl : List (Nat × List UInt8)} (hf : FrV w v cl) (hd : DAt w B P g d) (hm : PMap w M N f) {n : Nat} (hl : 1 + z + 4 * n + 4 ≤ d.rd.length) : (askP d z f cl n).length = 512 := by
 unfold askP
 split
 · exact (hm.some_lt ‹_›).2
 · unfold liftC
   split
   · rename_i k hk
     obtain ⟨hk1, _⟩ := List.findIdx?_eq_some_iff_getElem.1 hk
     obtain ⟨bs, _, hbl, hall⟩ := hf
     have := (hall k _ _ (List.getElem?_eq_getElem (by rw [hbl]; exact hk1)) (List.getElem?_eq_getElem hk1)).2
     simpa [hk1] using this
   · show (pgAt d z n).length = 512
     rw [← pgUp_four]
     exact pgUp_len hd.all128 hl (Nat.le_refl _)
section
variable {w : World} {p g z fr lb M1 M2 : Nat} {v : Value} {dd : Bool}
set_option maxRecDepth 100000 in
theorem plask_any {B : Nat} {P : Nat → Prop} {d : DS} {cl : List (Nat × List UInt8)} {N : Nat} {f : Nat → List UInt8} (h : PlB w p g z fr lb M1 M2 v dd) (hf : FrV w v cl) (hd : DAt w B P g d) (hm : PMap w M2 N f) (hN : N ≤ 8192) {n : Nat} (hz : z ≤ 4000) (hn : n ≤ 2000) (hl : 1 + z + 4 * n + 4 ≤ d.rd.length) (hcl : cl.length ≤ 10000) (hfr : fr ≤ 10000) :
 Calls Tryz.prog 50 #[.pointer (some ⟨p, 0, none⟩), .int .i64 (n : Nat)] w fun e w' => ∃ v', e = .returned (.tuple #[av (askP d z f cl n), .int .i64 0]) ∧ FrV w' v' (askL d z fr f cl n) ∧ PlB w' p g z fr lb M1 M2 v' dd ∧ (v'.ownBlock = v.ownBlock ∨ ∃ k, v'.ownBlock = some k ∧ w.heap.size ≤ k) ∧ Fr (fun k => k = p ∨ v.ownBlock = some k) w w' := by
 by_cases hfn : f n = []
 · exact plask_clean h hf hd hm hN hz hn hl hcl hfr hfn
 · exact plask_dirty h hf hd hm hN hz hn hl hcl hfr hfn
set_option maxRecDepth 100000 in
theorem results_get {tmps : Array Value} {w : World} {b : Nat} {x : List UInt8} {v : Value} (h4 : tmps.getD 4 undef = .pointer (some ⟨b, 0, none⟩)) (h5 : tmps.getD 5 undef = v) (hl : x.length = 512)
 (hb : Blk w b 50 (cellsB x).toArray) : (results Tryz.f18 tmps).run Tryz.prog w = .ok (.tuple #[av x, v]) w := by
 have e := run_loadVar_row (P := Tryz.prog) w b 50 50 (cellsB x).toArray (0, 0) _ hb Tryz.underlying50 rfl (by rw [infoPgS]; simp [cellsB_len, hl])
 have h4' : tmps[4]?.getD undef = .pointer (some ⟨b, 0, none⟩) := by simpa using h4
 have h5' : tmps[5]?.getD undef = v := by simpa using h5
 simp [results, Tryz.f18, h4', h5', asAddr, e]
set_option maxRecDepth 100000 in
theorem phas_ok {c n : Nat} (hn : n < c) : phasE false c (n : Int) = 0 := by
 unfold phasE
 rw [if_neg (by decide), if_neg (by omega)]
set_option maxRecDepth 100000 in
set_option maxHeartbeats 4000000 in
theorem plget_chg {B : Nat} {P : Nat → Prop} {d : DS} {N : Nat} {f : Nat → List UInt8} (h : PlB w p g z fr lb M1 M2 v dd) (hd : DAt w B P g d) (hpP : ¬ P p) (hm : PMap w M1 N f) (hN : N ≤ 8192) {n : Nat} (ha : (dd || d.dd) = false) (hn : n < pcnt d.rd.length z) (hn8 : n ≤ 8192) (hfn : f n ≠ []) :
 Calls Tryz.prog 18 #[.pointer (some ⟨p, 0, none⟩), .int .i64 (n : Nat)] w fun e w' => e = .returned (.tuple #[av (f n), .int .i64 0]) ∧ PlB w' p g z fr lb M1 M2 v false ∧ Fr (fun b => b = p) w w' := by
 obtain ⟨x, hx⟩ : ∃ x, x = f n := ⟨_, rfl⟩
 have hxl : x.length = 512 := by rw [hx]; exact (hm.some_lt hfn).2
 have hpo : pgOr (f n) = x := by rw [hx]; unfold pgOr; rw [if_neg hfn]
 rw [← hx]
 obtain ⟨W0, hW0⟩ : ∃ W0, W0 = w.alloc (.cells Tryz.zeroCells50 50) := ⟨_, rfl⟩
 have f0 : Fr (fun _ => False) w W0 := by rw [hW0]; exact (Fr.refl _ w).alloc _
 have hb0 : Blk W0 w.heap.size 50 (cellsB (nought 512)).toArray := by rw [hW0, zeroPgCells]; exact Blk.new w _ _
 have HH := Lib.hid (plhas_any (h.keep f0 (fun q => q)) (hd.new f0) hpP (n : Int))
 have hz0 : phasE (dd || d.dd) (pcnt d.rd.length z) (n : Int) = 0 := by rw [ha]; exact phas_ok hn
 rw [hz0, ha] at HH
 have HM := Lib.hid (And.intro (hm.keep f0 (fun q => q)) (hm.ne_blk h))
 have HFN : Hid (decide (f n ≠ []) = true) := Lib.hid (decide_eq_true hfn)
 have HX := Lib.hid (And.intro hxl hpo)
 have H0 := Lib.hid (And.intro f0 (And.intro hb0 (show w.heap.size ≠ p from fun e => by have := h.lt; omega)))
 clear h hd hm hfn hx hxl hpo f0 hb0 hz0 ha hn
 go_enter Tryz.func18, Tryz.ntmps18
 rw [hW0] at HH
 go_wp2_with fail
 refine HH.out.mono ?_
 rintro e w2 ⟨rfl, h2, f2⟩
 rw [← hW0] at f2
 have k4 := (pl_cells h2).2.2.2.2.1
 have hm2 := HM.out.1.keep f2 HM.out.2
 have hb2 := H0.out.2.1.keep f2 H0.out.2.2
 obtain ⟨W1, hW1, hb1, hr1, f1, th1⟩ := put_arr w2 50 Tryz.zeroCells50 512 zeroPgCells x HX.out.1
 have hb3 := hb2.keep f1 (fun q => q)
 have hth := hb3.there (o := 0) (n := 512) (by simp [cellsB_len, nought_len])
 have HW := Lib.hid (And.intro hW1 (And.intro hb1 (And.intro hr1 (And.intro th1 (And.intro f1 (And.intro hb3 hth))))))
 have H2 := Lib.hid (And.intro h2 (And.intro f2 hm2))
 clear h2 f2 hm2 hb2 hW1 hb1 hr1 f1 th1 hb3 hth HH hW0
 go_wp2_with (first
  | (at_lookup; refine wpList_pm_look rfl _ _ true rfl H2.out.2.2 (by omega) rfl rfl (by omega) ?_; rw [HX.out.2, HFN.out]; simp only [if_true])
  | (refine wpList_store_mid rfl 50 _ _ rfl w2.heap.size 0 (cellsB x).toArray rfl rfl HW.out.2.2.2.1 (by rw [infoPgS]; simp [cellsB_len, HX.out.1]) (all_oneCell_toArray (cellsB_one _)) ?_; rw [← HW.out.1])
  | (refine wpList_load_mid rfl 50 _ rfl w2.heap.size 0 rfl (cellsB x) _ HW.out.2.2.1 Tryz.underlying50 rfl (by rw [infoPgS, cellsB_len, HX.out.1]) ?_)
  | (refine wpList_store_mid rfl 50 _ _ rfl w.heap.size 0 (cellsB x).toArray rfl rfl (by simp only [List.size_toArray, cellsB_len, HX.out.1]; exact HW.out.2.2.2.2.2.2) (by rw [infoPgS]; simp [cellsB_len, HX.out.1]) (all_oneCell_toArray (cellsB_one _)) ?_))
 have hbe := HW.out.2.2.2.2.2.1.over (o := 0) (m := x) (by rw [nought_len, HX.out.1]; omega)
 rw [patch_all (by rw [nought_len, HX.out.1])] at hbe
 have fe : Fr (fun q => q = w.heap.size) W1 (W1.setCells w.heap.size 0 (cellsB x)) := Fr.setCells (F := fun q => q = w.heap.size) (.inl rfl) (Fr.refl _ _)
 refine bodyPost_ret (results_get rfl rfl HX.out.1 hbe) rfl ?_
 exact ⟨rfl, (H2.out.1.keep HW.out.2.2.2.2.1 (fun q => q)).keep fe (fun q => H0.out.2.2 q.symm), (((H0.out.1.mono (fun _ _ q => q.elim)).trans H2.out.2.1 (fun _ _ q => q)).trans HW.out.2.2.2.2.1 (fun _ _ q => q.elim)).trans fe (fun b hb q => by omega)⟩
set_option maxRecDepth 100000 in
set_option maxHeartbeats 4000000 in
theorem plget_ask {B : Nat} {P : Nat → Prop} {d : DS} {N : Nat} {f1 f2 : Nat → List UInt8} {cl : List (Nat × List UInt8)} (h : PlB w p g z fr lb M1 M2 v dd) (hf : FrV w v cl) (hd : DAt w B P g d) (hpP : ¬ P p) (hPv : ∀ b t cs, P b → Blk w b t cs → t ≠ 93) (hm : PMap w M1 N f1) (hm2 : PMap w M2 N f2) (hN : N ≤ 8192) {n : Nat} (ha : (dd || d.dd) = false) (hn : n < pcnt d.rd.length z) (hz : z ≤ 4000) (hn8 : n ≤ 2000) (hl : 1 + z + 4 * n + 4 ≤ d.rd.length) (hcl : cl.length ≤ 10000) (hfr : fr ≤ 10000) (hfn : f1 n = []) :
 Calls Tryz.prog 18 #[.pointer (some ⟨p, 0, none⟩), .int .i64 (n : Nat)] w fun e w' => ∃ v', e = .returned (.tuple #[av (askP d z f2 cl n), .int .i64 0]) ∧ FrV w' v' (askL d z fr f2 cl n) ∧ PlB w' p g z fr lb M1 M2 v' false ∧ (v'.ownBlock = v.ownBlock ∨ ∃ k, v'.ownBlock = some k ∧ w.heap.size ≤ k) ∧ Fr (fun k => k = p ∨ v.ownBlock = some k) w w' := by
 have hpo : pgOr (f1 n) = nought 512 := by rw [hfn]; rfl
 obtain ⟨y, hy⟩ : ∃ y, y = askP d z f2 cl n := ⟨_, rfl⟩
 have hyl : y.length = 512 := by rw [hy]; exact askP_len hf hd hm2 hl
 obtain ⟨x, hx⟩ : ∃ x, x = nought 512 := ⟨_, rfl⟩
 have hxl : x.length = 512 := by rw [hx]; exact nought_len 512
 rw [← hx] at hpo
 obtain ⟨W0, hW0⟩ : ∃ W0, W0 = w.alloc (.cells Tryz.zeroCells50 50) := ⟨_, rfl⟩
 have f0 : Fr (fun _ => False) w W0 := by rw [hW0]; exact (Fr.refl _ w).alloc _
 have hb0 : Blk W0 w.heap.size 50 (cellsB (nought 512)).toArray := by rw [hW0, zeroPgCells]; exact Blk.new w _ _
 have HH := Lib.hid (plhas_any (h.keep f0 (fun q => q)) (hd.new f0) hpP (n : Int))
 have hz0 : phasE (dd || d.dd) (pcnt d.rd.length z) (n : Int) = 0 := by rw [ha]; exact phas_ok hn
 rw [hz0, ha] at HH
 have hvb : ∀ k, v.ownBlock = some k → k ≠ p ∧ k < w.heap.size := fun k hk => by
  obtain ⟨bs, ho, _⟩ := hf
  obtain ⟨cs, hb⟩ := own_blk ho hk
  exact ⟨fun e => own_ne ho h (by decide) (by rw [hk, e]), hb.lt⟩
 have HM := Lib.hid (And.intro (hm.keep f0 (fun q => q)) (And.intro (hm.ne_blk h) (And.intro (hm2.keep f0 (fun q => q)) (hm2.ne_blk h))))
 have HFN : Hid (decide (f1 n ≠ []) = false) := Lib.hid (by rw [hfn]; rfl)
 have HX := Lib.hid (And.intro hxl (And.intro hpo (And.intro hyl hy)))
 have H0 := Lib.hid (And.intro f0 (And.intro hb0 (And.intro (show w.heap.size ≠ p from fun e => by have := h.lt; omega) (And.intro (hf.keep f0 (fun _ _ q => q) (fun _ _ _ q => q)) (And.intro (hd.new f0) (And.intro hvb (And.intro hpP hl)))))))
 have HFP : Hid (∀ w'' k cs, Fr (fun b => b = p) W0 w'' → Blk W0 k 95 cs → k ≠ p) := Lib.hid (fun w'' k cs _ hk e => absurd (blk_type (e ▸ hk) (h.keep f0 (fun q => q))) (by decide))
 clear h hf hd hm hm2 hfn hx hxl hpo hy hyl f0 hb0 hz0 ha hn hl hvb hPv hpP
 go_enter Tryz.func18, Tryz.ntmps18
 rw [hW0] at HH
 go_wp2_with fail
 refine HH.out.mono ?_
 rintro e w2 ⟨rfl, h2, f2⟩
 rw [← hW0] at f2
 have k4 := (pl_cells h2).2.2.2.2.1
 have hma := HM.out.1.keep f2 HM.out.2.1
 have hmb := HM.out.2.2.1.keep f2 HM.out.2.2.2
 have hf2 := H0.out.2.2.2.1.keep f2 (fun k hk e => (H0.out.2.2.2.2.2.1 k hk).1 e) (fun k cs hk e => HFP.out w2 k cs f2 hk e)
 have hd2 := H0.out.2.2.2.2.1.keep f2 (fun i hi e => H0.out.2.2.2.2.2.2.1 (e ▸ hi))
 have hb2 := H0.out.2.1.keep f2 H0.out.2.2.1
 obtain ⟨W1, hW1, hb1, hr1, f1, th1⟩ := put_arr w2 50 Tryz.zeroCells50 512 zeroPgCells x HX.out.1
 have hb3 := hb2.keep f1 (fun q => q)
 have HAS := Lib.hid (plask_any (n := n) (h2.keep f1 (fun q => q)) (hf2.keep f1 (fun _ _ q => q) (fun _ _ _ q => q)) (hd2.new f1) (hmb.keep f1 (fun q => q)) hN hz hn8 H0.out.2.2.2.2.2.2.2 hcl hfr)
 rw [← HX.out.2.2.2] at HAS
 have HW := Lib.hid (And.intro hW1 (And.intro hb1 (And.intro hr1 (And.intro th1 (And.intro f1 hb3)))))
 have H2 := Lib.hid (And.intro h2 (And.intro f2 hma))
 clear h2 f2 hma hmb hf2 hd2 hb2 hW1 hb1 hr1 f1 th1 hb3 HH hW0
 go_wp2_with (first
  | (at_lookup; refine wpList_pm_look rfl _ _ true rfl H2.out.2.2 (by omega) rfl rfl (by omega) ?_; rw [HX.out.2.1, HFN.out]; simp only [if_true])
  | (refine wpList_store_mid rfl 50 _ _ rfl w2.heap.size 0 (cellsB x).toArray rfl rfl HW.out.2.2.2.1 (by rw [infoPgS]; simp [cellsB_len, HX.out.1]) (all_oneCell_toArray (cellsB_one _)) ?_; rw [← HW.out.1]))
 refine HAS.out.mono ?_
 rintro e w3 ⟨v3, rfl, hf3, hp3, hv3, f3⟩
 have hbw : ¬ (w.heap.size = p ∨ v.ownBlock = some w.heap.size) := fun q => by
  rcases q with q | q
  · exact H0.out.2.2.1 q
  · have := (H0.out.2.2.2.2.2.1 _ q).2
    omega
 have hb4 := HW.out.2.2.2.2.2.keep f3 hbw
 have hth := hb4.there (o := 0) (n := 512) (by simp [cellsB_len, nought_len])
 have H3 := Lib.hid (And.intro hf3 (And.intro hp3 (And.intro hv3 (And.intro f3 (And.intro hb4 (And.intro hth hbw))))))
 clear hf3 hp3 hv3 f3 hb4 hth hbw k4
 go_wp2_with (refine wpList_store_mid rfl 50 _ _ rfl w.heap.size 0 (cellsB y).toArray rfl rfl (by simp only [List.size_toArray, cellsB_len, HX.out.2.2.1]; exact H3.out.2.2.2.2.2.1) (by rw [infoPgS]; simp [cellsB_len, HX.out.2.2.1]) (all_oneCell_toArray (cellsB_one _)) ?_)
 have hbe := H3.out.2.2.2.2.1.over (o := 0) (m := y) (by rw [nought_len, HX.out.2.2.1]; omega)
 rw [patch_all (by rw [nought_len, HX.out.2.2.1])] at hbe
 have fe : Fr (fun q => q = w.heap.size) w3 (w3.setCells w.heap.size 0 (cellsB y)) := Fr.setCells (F := fun q => q = w.heap.size) (.inl rfl) (Fr.refl _ _)
 refine bodyPost_ret (results_get rfl rfl HX.out.2.2.1 hbe) rfl ?_
 obtain ⟨hf3, hp3, hv3, f3, hb4, _, hbw⟩ := H3.out
 have hs0 := H0.out.1.size
 have hs2 := H2.out.2.1.size
 have hs1 := HW.out.2.2.2.2.1.size
 rw [← HX.out.2.2.2]
 refine ⟨v3, rfl, hf3.keep fe (fun k hk e => ?_) (fun k cs hk e => absurd (blk_type (e ▸ hk) hb4) (by decide)), hp3.keep fe (fun e => H0.out.2.2.1 e.symm), ?_, ((((H0.out.1.mono (fun _ _ q => q.elim)).trans H2.out.2.1 (fun _ _ q => .inl q)).trans HW.out.2.2.2.2.1 (fun _ _ q => q.elim)).trans f3 (fun _ _ q => q)).trans fe (fun b hb q => by omega)⟩
 · obtain ⟨bs, ho, _⟩ := hf3
   exact own_ne ho hb4 (by decide) (by rw [hk, e])
 · rcases hv3 with q | ⟨k, q1, q2⟩
   · exact .inl q
   · exact .inr ⟨k, q1, by omega⟩
set_option maxRecDepth 100000 in
set_option maxHeartbeats 4000000 in
theorem plget_bad {B : Nat} {P : Nat → Prop} {d : DS} (h : PlB w p g z fr lb M1 M2 v dd) (hd : DAt w B P g d) (hpP : ¬ P p) (n : Int) {r : Int} (hr : phasE (dd || d.dd) (pcnt d.rd.length z) n = r) (hr0 : r ≠ 0) :
 Calls Tryz.prog 18 #[.pointer (some ⟨p, 0, none⟩), .int .i64 n] w fun e w' => e = .returned (.tuple #[av (nought 512), .int .i64 r]) ∧ PlB w' p g z fr lb M1 M2 v (dd || d.dd) ∧ Fr (fun b => b = p) w w' := by
 obtain ⟨x, hx⟩ : ∃ x, x = nought 512 := ⟨_, rfl⟩
 have hxl : x.length = 512 := by rw [hx]; exact nought_len 512
 obtain ⟨W0, hW0⟩ : ∃ W0, W0 = w.alloc (.cells Tryz.zeroCells50 50) := ⟨_, rfl⟩
 have f0 : Fr (fun _ => False) w W0 := by rw [hW0]; exact (Fr.refl _ w).alloc _
 have hb0 : Blk W0 w.heap.size 50 (cellsB (nought 512)).toArray := by rw [hW0, zeroPgCells]; exact Blk.new w _ _
 have HH := Lib.hid (plhas_any (h.keep f0 (fun q => q)) (hd.new f0) hpP n)
 rw [hr] at HH
 rw [← hx]
 have hbr : (r == 0) = false := by rw [beq_eq_false_iff_ne]; exact hr0
 have HX := Lib.hid (And.intro hxl hx)
 have H0 := Lib.hid (And.intro f0 (And.intro hb0 (show w.heap.size ≠ p from fun e => by have := h.lt; omega)))
 clear h hd hx hxl f0 hb0 hr
 go_enter Tryz.func18, Tryz.ntmps18
 rw [hW0] at HH
 go_wp2_with fail
 refine HH.out.mono ?_
 rintro e w2 ⟨rfl, h2, f2⟩
 rw [← hW0] at f2
 have hb2 := H0.out.2.1.keep f2 H0.out.2.2
 have hth := hb2.there (o := 0) (n := 512) (by simp [cellsB_len, nought_len])
 have H2 := Lib.hid (And.intro h2 (And.intro f2 (And.intro hb2 hth)))
 clear h2 f2 hb2 hth HH hW0
 go_wp2_with (refine wpList_store_mid rfl 50 _ _ rfl w.heap.size 0 Tryz.zeroCells50 rfl rfl (by rw [zeroPgCells, ← HX.out.2]; simp only [List.size_toArray, cellsB_len, HX.out.1]; exact H2.out.2.2.2) (by rw [infoPgS, zeroPgCells, ← HX.out.2]; simp [cellsB_len, HX.out.1]) (by rw [zeroPgCells]; exact all_oneCell_toArray (cellsB_one _)) ?_; rw [zeroPgCells, ← HX.out.2])
 have hbe := H2.out.2.2.1.over (o := 0) (m := x) (by rw [nought_len, HX.out.1]; omega)
 rw [patch_all (by rw [nought_len, HX.out.1])] at hbe
 have fe : Fr (fun q => q = w.heap.size) w2 (w2.setCells w.heap.size 0 (cellsB x)) := Fr.setCells (F := fun q => q = w.heap.size) (.inl rfl) (Fr.refl _ _)
 refine bodyPost_ret (results_get rfl rfl HX.out.1 hbe) rfl ?_
 exact ⟨rfl, H2.out.1.keep fe (fun q => H0.out.2.2 q.symm), ((H0.out.1.mono (fun _ _ q => q.elim)).trans H2.out.2.1 (fun _ _ q => q)).trans fe (fun b hb q => by omega)⟩
end
end Go.Proofs.YtcnlgbjkjlbmbaaGreat

namespace Go.Proofs.YtcnlgbjkjlbmbaaGreat
open Go.RowKit

set_option maxRecDepth 100000 in
theorem pg_equal (l m : List UInt8) (hl : l.length = 512) (hm : m.length = 512) (w : World) : (Op.equal 50 (av l) (av m)).run Tryz.prog w = .ok (decide (l = m)) w := by
 obtain ⟨i0, hi, _⟩ := info_parts infoU8
 have h := run_equalIn_array (P := Tryz.prog) w 9999 (t := 50) (cellsB l).toArray (cellsB m).toArray Tryz.underlying50 hi
 rw [eqItems_bytes 9998 l m w (List.range 512) (fun i hi => by have := List.mem_range.1 hi; omega)] at h
 have e := all_same (l := l) (m := m) (by omega)
 rw [hl] at e
 rw [e] at h
 exact h
set_option maxRecDepth 100000 in
theorem pg_eql (l m : List UInt8) (hl : l.length = 512) (hm : m.length = 512) (w : World) : (binOp .eql 50 (av l) (av m)).run Tryz.prog w = .ok (.bool (decide (l = m))) w := by
 simp [binOp, pg_equal l m hl hm w]
set_option maxRecDepth 100000 in
theorem pg_neq (l m : List UInt8) (hl : l.length = 512) (hm : m.length = 512) (w : World) : (binOp .neq 50 (av l) (av m)).run Tryz.prog w = .ok (.bool (!decide (l = m))) w := by
 simp [binOp, pg_equal l m hl hm w]
section
variable {w : World} {p g z fr lb M1 M2 : Nat} {v : Value} {dd : Bool}
set_option maxRecDepth 100000 in
set_option maxHeartbeats 4000000 in
theorem plput_any {B : Nat} {P : Nat → Prop} {d : DS} {N : Nat} {f1 f2 : Nat → List UInt8} {cl : List (Nat × List UInt8)} (h : PlB w p g z fr lb M1 M2 v dd) (hf : FrV w v cl) (hd : DAt w B P g d) (hpP : ¬ P p) (hm : PMap w M1 N f1) (hm2 : PMap w M2 N f2) (hN : N ≤ 8192) {n : Nat} (ha : (dd || d.dd) = false) (hn : n < pcnt d.rd.length z) (hz : z ≤ 4000) (hn8 : n ≤ 2000) (hnN : n < N) (hl : 1 + z + 4 * n + 4 ≤ d.rd.length) (hcl : cl.length ≤ 10000) (hfr : fr ≤ 10000) {x : List UInt8} (hxl : x.length = 512) :
 Calls Tryz.prog 19 #[.pointer (some ⟨p, 0, none⟩), .int .i64 (n : Nat), av x] w fun e w' => ∃ v', e = .returned (.int .i64 0) ∧ FrV w' v' (askL d z fr f2 cl n) ∧ PlB w' p g z fr lb M1 M2 v' false ∧ PMap w' M1 N (upd f1 n (if x = askP d z f2 cl n then [] else x)) ∧ (v'.ownBlock = v.ownBlock ∨ ∃ k, v'.ownBlock = some k ∧ w.heap.size ≤ k) ∧ Fr (fun k => k = p ∨ v.ownBlock = some k ∨ k = M1) w w' := by
 obtain ⟨y, hy⟩ : ∃ y, y = askP d z f2 cl n := ⟨_, rfl⟩
 have hyl : y.length = 512 := by rw [hy]; exact askP_len hf hd hm2 hl
 rw [← hy]
 obtain ⟨u, hu⟩ : ∃ u, u = upd f1 n (if x = y then [] else x) := ⟨_, rfl⟩
 rw [← hu]
 have HU := Lib.hid hu
 clear hu
 obtain ⟨W0, hW0⟩ : ∃ W0, W0 = w.alloc (.cells (cellsB x).toArray 50) := ⟨_, rfl⟩
 have f0 : Fr (fun _ => False) w W0 := by rw [hW0]; exact (Fr.refl _ w).alloc _
 have hb0 : Blk W0 w.heap.size 50 (cellsB x).toArray := by rw [hW0]; exact Blk.new w _ _
 have HH := Lib.hid (plhas_any (h.keep f0 (fun q => q)) (hd.new f0) hpP (n : Int))
 have hz0 : phasE (dd || d.dd) (pcnt d.rd.length z) (n : Int) = 0 := by rw [ha]; exact phas_ok hn
 rw [hz0, ha] at HH
 have hvb : ∀ k, v.ownBlock = some k → k ≠ p ∧ k < w.heap.size ∧ k ≠ M1 := fun k hk => by
  obtain ⟨bs, ho, _⟩ := hf
  obtain ⟨cs, hb⟩ := own_blk ho hk
  exact ⟨fun e => own_ne ho h (by decide) (by rw [hk, e]), hb.lt, fun e => hm.ne_own ho (by rw [hk, e])⟩
 have HM := Lib.hid (And.intro (hm.keep f0 (fun q => q)) (And.intro (hm.ne_blk h) (And.intro (hm2.keep f0 (fun q => q)) (And.intro (hm2.ne_blk h) hm.lt))))
 have HX := Lib.hid (And.intro hxl (And.intro hyl hy))
 have H0 := Lib.hid (And.intro f0 (And.intro hb0 (And.intro (show w.heap.size ≠ p from fun e => by have := h.lt; omega) (And.intro (hf.keep f0 (fun _ _ q => q) (fun _ _ _ q => q)) (And.intro (hd.new f0) (And.intro hvb (And.intro hpP hl)))))))
 have HFP : Hid (∀ k cs, Blk W0 k 95 cs → k ≠ p) := Lib.hid (fun k cs hk e => absurd (blk_type (e ▸ hk) (h.keep f0 (fun q => q))) (by decide))
 clear h hf hd hm hm2 hxl hy hyl f0 hb0 hz0 ha hn hl hvb hpP
 go_enter Tryz.func19, Tryz.ntmps19
 rw [hW0] at HH
 go_wp2_with fail
 refine HH.out.mono ?_
 rintro e w2 ⟨rfl, h2, f2⟩
 rw [← hW0] at f2
 have hma := HM.out.1.keep f2 HM.out.2.1
 have hmb := HM.out.2.2.1.keep f2 HM.out.2.2.2.1
 have hf2 := H0.out.2.2.2.1.keep f2 (fun k hk e => (H0.out.2.2.2.2.2.1 k hk).1 e) (fun k cs hk e => HFP.out k cs hk e)
 have hd2 := H0.out.2.2.2.2.1.keep f2 (fun i hi e => H0.out.2.2.2.2.2.2.1 (e ▸ hi))
 have hb2 := H0.out.2.1.keep f2 H0.out.2.2.1
 have HAS := Lib.hid (plask_any (n := n) h2 hf2 hd2 hmb hN hz hn8 H0.out.2.2.2.2.2.2.2 hcl hfr)
 rw [← HX.out.2.2] at HAS
 have H2 := Lib.hid (And.intro h2 (And.intro f2 (And.intro hma hb2)))
 clear h2 f2 hma hmb hf2 hd2 hb2 HH hW0
 go_wp2_with fail
 refine HAS.out.mono ?_
 rintro e w3 ⟨v3, rfl, hf3, hp3, hv3, f3⟩
 have hbw : ¬ (w.heap.size = p ∨ v.ownBlock = some w.heap.size) := fun q => by
  rcases q with q | q
  · exact H0.out.2.2.1 q
  · have := (H0.out.2.2.2.2.2.1 _ q).2
    omega
 have hb3 := H2.out.2.2.2.keep f3 hbw
 have hm3 := H2.out.2.2.1.keep f3 (fun q => by
  rcases q with q | q
  · exact HM.out.2.1 q
  · exact (H0.out.2.2.2.2.2.1 _ q).2.2 rfl)
 obtain ⟨W4, hW4, hb4, hr4, f4, th4⟩ := put_arr w3 50 Tryz.zeroCells50 512 zeroPgCells y HX.out.2.1
 have hp4 := hp3.keep f4 (fun q => q)
 have hm4 := hm3.keep f4 (fun q => q)
 have hb5 := hb3.keep f4 (fun q => q)
 have k4 := (pl_cells hp4).2.2.2.2.1
 have hr5 : W4.rangeAt w.heap.size 0 (cellsB x) := fun j u hj => by rw [hb5.cell, Nat.zero_add]; simpa using hj
 have H3 := Lib.hid (And.intro hf3 (And.intro hp3 (And.intro hv3 (And.intro f3 hbw))))
 have HW := Lib.hid (And.intro hW4 (And.intro hr4 (And.intro th4 (And.intro f4 (And.intro hp4 (And.intro hm4 (And.intro hb5 hr5)))))))
 have hs0 := H0.out.1.size
 have hs2 := H2.out.2.1.size
 have HS := Lib.hid (And.intro hs0 hs2)
 clear hf3 hp3 hv3 f3 hbw hb3 hm3 hW4 hb4 hr4 f4 th4 hp4 hm4 hb5 hr5 hs0 hs2
 have hfin : ∀ w9, Fr (fun b => b = M1) W4 w9 → FrV w9 v3 (askL d z fr f2 cl n) ∧ PlB w9 p g z fr lb M1 M2 v3 false ∧ (v3.ownBlock = v.ownBlock ∨ ∃ k, v3.ownBlock = some k ∧ w.heap.size ≤ k) ∧ Fr (fun k => k = p ∨ v.ownBlock = some k ∨ k = M1) w w9 := fun w9 f9 => by
  obtain ⟨hf3, hp3, hv3, f3, hbw⟩ := H3.out
  have f4 := HW.out.2.2.2.1
  have hm4 := HW.out.2.2.2.2.2.1
  have hp4 := HW.out.2.2.2.2.1
  have hf4 := hf3.keep f4 (fun _ _ q => q) (fun _ _ _ q => q)
  refine ⟨hf4.keep f9 (fun k hk e => ?_) (fun k cs hk e => hm4.ne_blk hk e.symm), hp4.keep f9 (fun e => hm4.ne_blk hp4 e.symm), ?_, ((((H0.out.1.mono (fun _ _ q => q.elim)).trans H2.out.2.1 (fun _ _ q => .inl q)).trans f3 (fun _ _ q => q.elim .inl (fun q => .inr (.inl q)))).trans f4 (fun _ _ q => q.elim)).trans f9 (fun _ _ q => .inr (.inr q))⟩
  · obtain ⟨bs, ho, _⟩ := hf4
    exact hm4.ne_own ho (by rw [hk, e])
  · rcases hv3 with q | ⟨k, q1, q2⟩
    · exact .inl q
    · exact .inr ⟨k, q1, by have := HS.out.1; have := HS.out.2; omega⟩
 have HFI := Lib.hid hfin
 have hcmp : ∀ W, (binOp .eql 50 (av x) (av y)).run Tryz.prog W = .ok (.bool (decide (x = y))) W := pg_eql x y HX.out.1 HX.out.2.1
 clear hfin
 by_cases hxy : x = y
 · rw [decide_eq_true hxy] at hcmp
   have HXY := Lib.hid hxy
   clear hxy
   go_wp2_with (first
    | (refine wpList_store_mid rfl 50 _ _ rfl w3.heap.size 0 (cellsB y).toArray rfl rfl HW.out.2.2.1 (by rw [infoPgS]; simp [cellsB_len, HX.out.2.1]) (all_oneCell_toArray (cellsB_one _)) ?_; rw [← HW.out.1])
    | (refine wpList_load_mid rfl 50 _ rfl w.heap.size 0 rfl (cellsB x) _ HW.out.2.2.2.2.2.2.2 Tryz.underlying50 rfl (by rw [infoPgS, cellsB_len, HX.out.1]) ?_)
    | (refine wpList_load_mid rfl 50 _ rfl w3.heap.size 0 rfl (cellsB y) _ HW.out.2.1 Tryz.underlying50 rfl (by rw [infoPgS, cellsB_len, HX.out.2.1]) ?_)
    | (refine wpList_pm_del rfl (.tmp 39) (.tmp 40) rfl HW.out.2.2.2.2.2.1 (by omega) rfl rfl (by omega) ?_; intro w5 hm5 f5; have H5 := Lib.hid (And.intro hm5 f5); clear hm5 f5 k4))
   go_ret
   have q := HFI.out w5 H5.out.2
   exact ⟨v3, rfl, q.1, q.2.1, by rw [HU.out, if_pos HXY.out]; exact H5.out.1, q.2.2⟩
 · rw [decide_eq_false hxy] at hcmp
   have HXY := Lib.hid hxy
   clear hxy
   go_wp2_with (first
    | (refine wpList_store_mid rfl 50 _ _ rfl w3.heap.size 0 (cellsB y).toArray rfl rfl HW.out.2.2.1 (by rw [infoPgS]; simp [cellsB_len, HX.out.2.1]) (all_oneCell_toArray (cellsB_one _)) ?_; rw [← HW.out.1])
    | (refine wpList_load_mid rfl 50 _ rfl w.heap.size 0 rfl (cellsB x) _ HW.out.2.2.2.2.2.2.2 Tryz.underlying50 rfl (by rw [infoPgS, cellsB_len, HX.out.1]) ?_)
    | (refine wpList_load_mid rfl 50 _ rfl w3.heap.size 0 rfl (cellsB y) _ HW.out.2.1 Tryz.underlying50 rfl (by rw [infoPgS, cellsB_len, HX.out.2.1]) ?_))
   obtain ⟨w5, hrun, hm5, f5⟩ := (HW.out.2.2.2.2.2.1.keep (G := fun _ => False) ((Fr.refl _ W4).drew) (fun q => q)).put hN hnN HX.out.1
   have hpx : ∀ w'', Fr (fun b => b = M1) W4 w'' → w''.cell? ⟨p, 4, none⟩ = some (.map (some M1)) ∧ w''.rangeAt w.heap.size 0 (cellsB x) := fun w'' ff => by
    have hm4 := HW.out.2.2.2.2.2.1
    refine ⟨(pl_cells (HW.out.2.2.2.2.1.keep ff (fun e => hm4.ne_blk HW.out.2.2.2.2.1 e.symm))).2.2.2.2.1, fun j u hj => ?_⟩
    rw [(HW.out.2.2.2.2.2.2.1.keep ff (fun e => hm4.ne_blk HW.out.2.2.2.2.2.2.1 e.symm)).cell, Nat.zero_add]
    simpa using hj
   have HPX := Lib.hid hpx
   have H5 := Lib.hid (And.intro hrun (And.intro hm5 (((Fr.refl (fun b => b = M1) W4).drew).trans f5 (fun _ _ q => q))))
   clear hpx hrun hm5 f5 k4 hcmp
   (try simp only [Act.put, List.setIfInBounds_toArray, List.set_cons_zero, List.set_cons_succ])
   refine wp_region_held_drew (S := fun w' => Fr (fun b => b = M1) W4 w') (by kernel_rfl) ((Fr.refl _ _).drew) (fun hS0 => ?_)
   refine anyH_tk 0 22 (.pointer (some ⟨p, 0, none⟩)) rfl rfl (.inl ⟨by rfl, fun w'' hS => by go_simp⟩) hS0 ?_
   (simp only [sA, sB, sC])
   refine anyH_tk 1 23 (.pointer (some ⟨p, 0, none⟩)) rfl rfl (.inl ⟨by rfl, fun w'' hS => by go_simp⟩) hS0 ?_
   (simp only [sA, sB, sC])
   refine anyH_tk 2 24 (.pointer (some ⟨p, 4, none⟩)) rfl rfl (.inl ⟨by rfl, fun w'' hS => by go_simp⟩) hS0 ?_
   (simp only [sA, sB, sC])
   refine anyH_tk 3 25 (.map (some M1)) rfl rfl (.inl ⟨by rfl, fun w'' hS => by have q0 := (HPX.out w'' hS).1; go_simp⟩) hS0 ?_
   (simp only [sA, sB, sC])
   refine anyH_tk 4 26 (.int .i64 (n : Nat)) rfl rfl (.inl ⟨by rfl, fun w'' hS => by go_simp⟩) hS0 ?_
   (simp only [sA, sB, sC])
   refine anyH_tk 5 27 (av x) rfl rfl (.inl ⟨by rfl, fun w'' hS => run_load_mid 50 _ rfl w.heap.size 0 rfl (cellsB x) _ (HPX.out w'' hS).2 Tryz.underlying50 rfl (by rw [infoPgS, cellsB_len, HX.out.1])⟩) hS0 ?_
   (simp only [sA, sB, sC])
   refine anyH_skip 6 w5 (by kernel_rfl) rfl rfl (by rfl) (run_update_op (.tmp 25) (.tmp 26) (.tmp 27) 62 rfl rfl rfl rfl H5.out.1) H5.out.2.2 ?_
   refine wpAnyH_done (by kernel_rfl) ?_ _
   clear hS0
   go_wp2_with fail
   go_ret
   have q := HFI.out w5 H5.out.2.2
   exact ⟨v3, rfl, q.1, q.2.1, by rw [HU.out, if_neg HXY.out]; exact H5.out.2.1, q.2.2⟩
set_option maxRecDepth 100000 in
set_option maxHeartbeats 4000000 in
theorem plput_bad {B : Nat} {P : Nat → Prop} {d : DS} (h : PlB w p g z fr lb M1 M2 v dd) (hd : DAt w B P g d) (hpP : ¬ P p) (n : Int) {x : List UInt8} {r : Int} (hr : phasE (dd || d.dd) (pcnt d.rd.length z) n = r) (hr0 : r ≠ 0) :
 Calls Tryz.prog 19 #[.pointer (some ⟨p, 0, none⟩), .int .i64 n, av x] w fun e w' => e = .returned (.int .i64 r) ∧ PlB w' p g z fr lb M1 M2 v (dd || d.dd) ∧ Fr (fun b => b = p) w w' := by
 obtain ⟨W0, hW0⟩ : ∃ W0, W0 = w.alloc (.cells (cellsB x).toArray 50) := ⟨_, rfl⟩
 have f0 : Fr (fun _ => False) w W0 := by rw [hW0]; exact (Fr.refl _ w).alloc _
 have HH := Lib.hid (plhas_any (h.keep f0 (fun q => q)) (hd.new f0) hpP n)
 rw [hr] at HH
 have hbr : (r == 0) = false := by rw [beq_eq_false_iff_ne]; exact hr0
 have H0 := Lib.hid f0
 clear h hd f0 hr
 go_enter Tryz.func19, Tryz.ntmps19
 rw [hW0] at HH
 go_wp2_with fail
 refine HH.out.mono ?_
 rintro e w2 ⟨rfl, h2, f2⟩
 rw [← hW0] at f2
 have H2 := Lib.hid (And.intro h2 f2)
 clear h2 f2 HH hW0
 go_wp2_with fail
 go_ret
 exact ⟨rfl, H2.out.1, (H0.out.mono (fun _ _ q => q.elim)).trans H2.out.2 (fun _ _ q => q)⟩
end
end Go.Proofs.YtcnlgbjkjlbmbaaGreat


