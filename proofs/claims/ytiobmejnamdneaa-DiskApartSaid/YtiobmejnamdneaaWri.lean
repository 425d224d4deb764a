/- The program's disk: Write. -/
import Derived.Test.YtiobmejnamdneaaWrp
import Derived.Great.BuildSlice
import Derived.Maps.OwnOps
namespace Go.Proofs.Ytiobmejnamdneaa
open Go.RowKit Go.Maps

theorem fold_set : ∀ (l : List Value) (k : Nat) (acc : Array Value), k + l.length ≤ acc.size → ((l.zipIdx k).foldl (fun cs (x : Value × Nat) => cs.setIfInBounds (0 + x.2) x.1) acc) = (acc.toList.take k ++ (l ++ acc.toList.drop (k + l.length))).toArray
  | [], k, acc, _ => by simp
  | x :: l, k, acc, h => by
    simp only [List.length_cons] at h
    rw [List.zipIdx_cons, List.foldl_cons, fold_set l (k + 1) _ (by simp; omega)]
    simp only [Nat.zero_add, Array.toList_setIfInBounds]
    have h1 : k < acc.toList.length := by simp; omega
    have e1 : (acc.toList.set k x).take (k + 1) = acc.toList.take k ++ [x] := by
      rw [List.take_set, List.take_succ_eq_append_getElem h1]
      have h4 : (acc.toList.take k).length = k := by rw [List.length_take]; omega
      rw [List.set_append_right _ _ (by omega), h4, Nat.sub_self]
      rfl
    have e2 : (acc.toList.set k x).drop (k + 1 + l.length) = acc.toList.drop (k + (l.length + 1)) := by
      rw [List.drop_set_of_lt (by omega)]
      congr 1
      omega
    rw [e1, e2]
    simp
theorem fill_one {cs base : List Value} (h : cs.length = base.length) (K : Nat) (hK : cs.length = K) : Instr.fill (fun i => some (i * K, K)) base.toArray [(0, .agg cs.toArray)] = some cs.toArray := by
  have h1 := fold_set cs 0 base.toArray (by simp [h])
  have h2 : base.drop (0 + cs.length) = [] := List.drop_eq_nil_of_le (by omega)
  rw [List.toList_toArray, h2] at h1
  simp only [Instr.fill, Value.cells, Nat.zero_mul]
  rw [if_neg (by simp; omega)]
  rw [← Array.foldl_toList, Array.toList_zipIdx, List.toList_toArray, h1]
  simp
theorem slice_of_one {l : List UInt8} (hl : l.length = 128) (w : World) : (Instr.buildSlice 38 1 #[(0, .agg (cellsB l).toArray)]).run Try.prog w = .ok (.slice (some ⟨w.heap.size, 0, none⟩) 1 1) (w.alloc (.cells (cellsB l).toArray 31)) := by
  obtain ⟨i0, hi, hz0, hz1, hz2⟩ := info_parts infoSec
  refine run_buildSlice w 38 31 1 _ _ i0 _ Try.underlying38 hi hz0 (by rw [hz1]; omega) (by rw [hz1]; omega) ?_
  rw [hz1]
  have hb : ((Array.range (1 * 128)).map ((av (nought 128)).cells[· % (av (nought 128)).cells.size]!)) = (cellsB (nought 128)).toArray := made_bytes (av (nought 128)).cells 128 (1 * 128) rfl (by omega)
  rw [hb]
  exact fill_one (by simp [cellsB_len, hl, nought_len]) 128 (by rw [cellsB_len, hl])

section
variable {o : Oper} {a : Act} {w : World}
theorem run_build_op (x : Operand) (hop : o.op = .buildSlice 38 1 #[(0, x)]) {l : List UInt8} (hl : l.length = 128) (hx : a.eval x = av l) :
    (execOp a.eval o).run Try.prog w = .ok (.value (.slice (some ⟨w.heap.size, 0, none⟩) 1 1)) (w.alloc (.cells (cellsB l).toArray 31)) := by
  have hr := slice_of_one hl w
  unfold execOp
  simp only [hop, Array.map, hx]
  simp [hr, hx, Result.andThen]
theorem run_append_op (s x : Operand) (hop : o.op = Op.call { callee := Callee.builtin Builtin.append, args := #[s, x], argTypes := #[38, 38] }) {v y v' : Value} {w' : World} (hs : a.eval s = v) (hx : a.eval x = y)
    (hrun : (Builtin.append_ #[38, 38] o.type #[v, y]).run Try.prog w = .ok v' w') : (execOp a.eval o).run Try.prog w = .ok (.value v') w' := by
  simp [execOp, hop, resolve, invoke, builtin, hs, hx, hrun, Result.andThen]
theorem run_update_op (m x y : Operand) (t : TypeId) (hop : o.op = Op.mapUpdate t m x y) {vm vx vy : Value} {w' : World} (hm : a.eval m = vm) (hx : a.eval x = vx) (hy : a.eval y = vy)
    (hrun : (Instr.mapUpdate t vm vx vy).run Try.prog w = .ok () w') : (execOp a.eval o).run Try.prog w = .ok .skip w' := by
  simp [execOp, hop, hm, hx, hy, hrun, Result.andThen]
end
theorem zeroSl (w : World) : (zeroValue 38).run Try.prog w = .ok (.slice none 0 0) w := by kernel_rfl
/-- A sector put behind versions: append at run. -/
theorem append_one {w : World} {v : Value} {u : List (List UInt8)} {s : List UInt8} (hown : w.ownsRow 0 31 128 v u.length (cellsB u.flatten)) {b : Nat} (hb : Blk w b 31 (cellsB s).toArray) (hs : s.length = 128) (hN : u.length ≤ 100000) (ty : TypeId) :
    ∃ v' w', (Builtin.append_ #[38, 38] ty #[v, .slice (some ⟨b, 0, none⟩) 1 1]).run Try.prog w = .ok v' w' ∧ w'.ownsRow 0 31 128 v' (u.length + 1) (cellsB (u ++ [s]).flatten) ∧ w.grownBy w' v.ownBlock ∧ (v'.ownBlock = v.ownBlock ∨ v'.ownBlock = some w.heap.size) := by
  obtain ⟨i0, hi, hz0, hz1, hz2⟩ := info_parts infoSec
  obtain ⟨v', w', hrun, h2, h3, _, h5⟩ := run_append_own_at (P := Try.prog) w 0 38 ty 31 i0 (av (nought 128)) 128 128 Try.underlying38 hi hz0 hz1 hz2 (by simp [Value.cells, cellsB_len, nought_len]) (by omega) v u.length (cellsB u.flatten) hown ⟨b, 0, none⟩ 1 1 (cellsB s)
    (by rw [cellsB_len, hs]) (fun j z hj => by
      rw [Addr.add_mid]
      exact (sec_range hs hb) j z hj) (cellsB_one _) (by simp only [maxLen]; omega) (by omega) (Nat.zero_le _)
  rw [← cellsB_app] at h2
  refine ⟨v', w', hrun, ?_, h3, h5⟩
  have e : (u ++ [s]).flatten = u.flatten ++ s := by simp
  rw [e]
  exact h2
theorem own_one {w : World} {b : Nat} {s : List UInt8} (hb : Blk w b 31 (cellsB s).toArray) (hs : s.length = 128) : w.ownsRow 0 31 128 (.slice (some ⟨b, 0, none⟩) 1 1) 1 (cellsB s) :=
  ⟨by rw [cellsB_len, hs], .inr ⟨b, 1, (cellsB s).toArray, rfl, Nat.zero_le _, hb, Nat.le_refl _, by simp [maxLen], by simp [cellsB_len, hs], by simp [List.take_of_length_le, cellsB_len, hs]⟩⟩

/-- Write where there is no such sector: has says which error. -/
theorem write_err {w : World} {p : Value} {i x : Int} {s : List UInt8} (hx : x ≠ 0) (hh : ∀ w', Fr (fun _ => False) w w' → Calls Try.prog 34 #[p, .int .i64 i] w' fun e w'' => e = .returned (.int .i64 x) ∧ w' = w'') :
    Calls Try.prog 16 #[p, .int .i64 i, av s] w fun e w' => e = .returned (.int .i64 x) ∧ Fr (fun _ => False) w w' := by
  have hf := (Fr.refl (fun _ => False) w).alloc (.cells (cellsB s).toArray 31)
  have HH := hh _ hf
  have hxb : (x == 0) = false := by simp [hx]
  have HF := Lib.hid hf
  clear hh hf
  go_enter Try.func16, Try.ntmps16
  go_wp2_with (first
    | (refine wpList_put rfl 31 _ rfl _ rfl ?_)
    | (go_at_call 34; refine HH.mono ?_; rintro e w' ⟨rfl, rfl⟩))
  go_ret
  exact ⟨rfl, HF.out⟩
section
variable {ops : Array Oper} {o : Oper} {a : Act} {Q : Exit → Act → World → Prop}
theorem wpList_build_sec {rest : List Oper} {w : World} (hg : o.guard = none) (x : Operand) (hop : o.op = .buildSlice 38 1 #[(0, x)]) {l : List UInt8} (hl : l.length = 128) (hx : a.eval x = av l)
    (hK : wpList Try.prog ops Q rest (a.put o.dst (.slice (some ⟨w.heap.size, 0, none⟩) 1 1)) (w.alloc (.cells (cellsB l).toArray 31))) : wpList Try.prog ops Q (o :: rest) a w := by
  refine wpList_plain hg fun K hK' => ?_
  have hr := slice_of_one hl w
  unfold Oper.wp execOp
  simp only [hop, Array.map, hx]
  simp [hr, hx, Result.andThen]
  exact hK' _ _ hK
end

theorem len_le {l : List Nat} {n : Nat} (hd : l.Nodup) (h : ∀ x ∈ l, x < n) : l.length ≤ n := by
  have hp : l.Perm ((List.range n).filter (fun x => decide (x ∈ l))) := by
    refine (List.perm_ext_iff_of_nodup hd (List.nodup_range.filter _)).2 fun x => ?_
    simp only [List.mem_filter, List.mem_range, decide_eq_true_eq]
    exact ⟨fun hx => ⟨h x hx, hx⟩, fun hx => hx.2⟩
  rw [hp.length_eq]
  exact Nat.le_trans (List.length_filter_le _ _) (by simp)
theorem size_le {D : DataW Value} {n : Nat} (ht : Maps.Canon D) (hk : ∀ k, Maps.has D k = true → ∃ i, k = ky i ∧ i < n) : Maps.size D ≤ n := by
  obtain ⟨es, rfl, hp0, hlit⟩ := ht
  have hp := Maps.apart_of_rising hp0
  have hm : ∀ p ∈ es, ∃ i, p.1 = ky i ∧ i < n := fun p hpm => by
    refine hk p.1 ?_
    rw [Maps.has_eq, List.any_eq_true]
    exact ⟨p, hpm, WideAt.sameKey_self (hlit p hpm)⟩
  let f : Lit × DataW Value → Nat := fun p => match p.1 with | .int _ z => z.toNat | _ => 0
  have hf : ∀ p ∈ es, p.1 = ky (f p) := fun p hpm => by
    obtain ⟨i, hi, _⟩ := hm p hpm
    have : f p = i := by simp [f, hi]
    rw [this, hi]
  have := len_le (l := es.map f) (n := n) ?_ ?_
  · simpa [Maps.size] using this
  · rw [List.Nodup, List.pairwise_map]
    refine hp.imp_of_mem fun {p q} hp1 hq1 hne e => hne ?_
    rw [hf p hp1, hf q hq1, e]
  · intro x hx
    obtain ⟨p, hpm, rfl⟩ := List.mem_map.1 hx
    obtain ⟨i, hi, hlt⟩ := hm p hpm
    have : f p = i := by simp [f, hi]
    omega
section
variable {w : World} {F : Nat → Prop} {g R M : Nat} {D : DataW Value} {val : Nat → Value} {d : DS}
theorem DiskW.size_le (h : DiskW w F g R M D val d) : Maps.size D ≤ d.rd.length := Proofs.Ytiobmejnamdneaa.size_le (h.map.canon kyT) h.keys
theorem DiskW.own_lt (h : DiskW w F g R M D val d) {j b : Nat} (hj : j < d.rd.length) (hv : d.vs j ≠ []) (hb : (val j).ownBlock = some b) : b < w.heap.size := by
  rcases (h.row j hj hv).2 with ⟨q, _⟩ | ⟨b', cap, cur, q, _, hbb, _⟩
  · rw [q] at hb; simp [Value.ownBlock] at hb
  · rw [q] at hb
    have hb2 : b' = b := by simpa [Value.ownBlock] using hb
    rw [← hb2]
    exact (Array.getElem?_eq_some_iff.1 hbb).1
theorem DiskW.lt (h : DiskW w F g R M D val d) : g < w.heap.size ∧ R < w.heap.size ∧ M < w.heap.size := ⟨h.blk.lt, h.red.lt, h.map.lt⟩
theorem has_in (h : DiskW w F g R M D val d) {i : Nat} (hi : i < d.rd.length) : Calls Try.prog 34 #[.pointer (some ⟨g, 0, none⟩), .int .i64 i] w fun e w' => e = .returned (.int .i64 0) ∧ w = w' := by
  have := has_any h.blk (i : Int)
  have he : hasE d.rd.length (i : Int) = 0 := by unfold hasE; rw [if_neg (by omega), if_neg (by omega)]
  rwa [he] at this
theorem dwrite_dead (h : DiskW w F g R M D val d) {i : Nat} (hi : i < d.rd.length) {s : List UInt8} (hd : deadS d.fu d.lf d.dd = true) :
    Calls Try.prog 16 #[.pointer (some ⟨g, 0, none⟩), .int .i64 i, av s] w fun e w' => e = .returned (.int .i64 10) ∧ DiskW w' F g R M D val d.step ∧ Fr F w w' := by
  have hf := (Fr.refl (fun _ => False) w).alloc (.cells (cellsB s).toArray 31)
  have h0 := h.keep hf (fun _ _ q => q)
  have HH := has_in h0 hi
  have HS := dstep_any h0
  rw [hd] at HS
  simp only [↓reduceIte] at HS
  have HF := Lib.hid (And.intro hf h.fg)
  clear hf h0 hd h
  go_enter Try.func16, Try.ntmps16
  go_wp2_with (first
    | (refine wpList_put rfl 31 _ rfl _ rfl ?_)
    | (go_at_call 34; refine HH.mono ?_; rintro e w' ⟨rfl, rfl⟩)
    | (go_at_call 35; refine HS.mono ?_; rintro e w' ⟨rfl, h1, f1⟩))
  go_ret
  exact ⟨rfl, h1, (HF.out.1.mono (G := F) (fun _ _ q => q.elim)).trans f1 (fun j _ e => by have e' : j = g := e; rw [e']; exact HF.out.2)⟩

set_option maxRecDepth 100000 in
set_option maxHeartbeats 4000000 in
theorem dwrite_any (h : DiskW w F g R M D val d) {i : Nat} (hi : i < d.rd.length) {s x : List UInt8} (hs : s.length = 128) (hx : d.rd[i]? = some x) (hN : (d.vs i).length ≤ 10000) (hd : deadS d.fu d.lf d.dd = false) :
    Calls Try.prog 16 #[.pointer (some ⟨g, 0, none⟩), .int .i64 i, av s] w fun e w' => e = .returned (.int .i64 0) ∧ (∃ D' val', DiskW w' (fun b => F b ∨ w.heap.size ≤ b) g R M D' val' (d.step.put i (if d.vs i = [] then [x] else d.vs i) s)) ∧ Fr F w w' := by
  have hf := (Fr.refl (fun _ => False) w).alloc (.cells (cellsB s).toArray 31)
  have h0 := h.keep hf (fun _ _ q => q)
  have HH := has_in h0 hi
  have HS := dstep_any h0
  rw [hd] at HS
  simp only [Bool.false_eq_true, ↓reduceIte] at HS
  have hb0 := Blk.new w 31 (cellsB s).toArray
  have HP := Lib.hid (And.intro hf (And.intro h (And.intro hb0 hi)))
  have HL := Lib.hid hs
  have HKY := Lib.hid (ky_of (i := i) (by have := h.n1; omega))
  have hlt := h.lt
  clear hf h0 hd h hb0 hs
  by_cases hv0 : d.vs i = []
  · rw [if_pos hv0]
    obtain ⟨u, hu0⟩ : ∃ u, u = [x] := ⟨_, rfl⟩
    rw [← hu0]
    go_enter Try.func16, Try.ntmps16
    go_wp2_with (first
      | (refine wpList_put rfl 31 _ rfl _ rfl ?_)
      | (go_at_call 34; refine HH.mono ?_; rintro e w' ⟨rfl, rfl⟩))
    refine HS.mono ?_
    rintro e w5 ⟨rfl, h1, f1⟩
    have h5 := Lib.hid h1
    obtain ⟨c0, c1, c2, c3, c4⟩ := dsk_cells h1.blk
    have hhas : Maps.has D (ky i) = false := by
      cases hb : Maps.has D (ky i) with
      | false => rfl
      | true => exact absurd hv0 ((h1.opn i hi).1 hb)
    have hmap := h1.map
    have hsx := h1.secs i x hx
    rw [Nat.zero_add] at hsx
    have HX5 := Lib.hid hsx
    have hi0' : (0 : Int) ≤ (i : Int) := by omega
    have hi1' : (i : Int) < (d.step.rd.length : Int) := by have e : d.step.rd.length = d.rd.length := rfl; omega
    clear h1 hsx hx
    go_upto_region 10 with (first
      | (at_lookup; refine wpList_lookup_own_ok _ rfl _ _ 61 rfl 3 38 kyT Try.underlying61 HV (zeroSl _) (.held (.slice none 0 0)) [] rfl M _ D rfl hmap _ _ rfl HKY.out ?_; intro v0 ps hv; rw [hhas])
      | (refine wpList_load_mid rfl 31 _ rfl R (i * 128) rfl (cellsB x) _ HX5.out.2 Try.underlying31 rfl (by rw [infoSector, cellsB_len, HX5.out.1]) ?_)
      | (refine wpList_build_sec rfl _ rfl HX5.out.1 rfl ?_))
    have fa : Fr (fun _ => False) w5 (w5.alloc (.cells (cellsB x).toArray 31)) := (Fr.refl _ _).alloc _
    have h6 := Lib.hid (h5.out.keep fa (fun _ _ q => q))
    have hbn := Blk.new w5 31 (cellsB x).toArray
    have hs5 : w.heap.size + 1 ≤ w5.heap.size := by
      have := f1.size
      have e : (w.alloc (.cells (cellsB s).toArray 31)).heap.size = w.heap.size + 1 := by
        show (w.heap.push _).size = w.heap.size + 1
        simp
      omega
    have hnb : ¬ w.heap.size = g := by omega
    have HB6 : Hid ((w5.alloc (.cells (cellsB x).toArray 31)).rangeAt w.heap.size 0 (cellsB s)) := Lib.hid (sec_range HL.out ((HP.out.2.2.1.keep f1 hnb).keep fa (fun q => q)))
    have HF6 : Hid (Fr F w (w5.alloc (.cells (cellsB x).toArray 31))) := Lib.hid (((HP.out.1.mono (G := F) (fun _ _ q => q.elim)).trans f1 (fun j _ q => by have q' : j = g := q; rw [q']; exact h6.out.fg)).trans fa (fun _ _ q => q.elim))
    have hrow := own_one hbn HX5.out.1
    generalize w5.alloc (.cells (cellsB x).toArray 31) = w6 at *
    obtain ⟨v, hvv⟩ : ∃ v, v = Value.slice (some ⟨w5.heap.size, 0, none⟩) 1 1 := ⟨_, rfl⟩
    rw [← hvv] at hrow ⊢
    have HT : Hid (w6.ownsRow 0 31 128 v u.length (cellsB u.flatten) ∧ (∀ b, v.ownBlock = some b → (F b ∨ w.heap.size ≤ b) ∧ b ≠ g ∧ b ≠ R ∧ b ≠ M ∧ b ≠ w.heap.size ∧ ∀ j, j < d.step.rd.length → d.step.vs j ≠ [] → j ≠ i → (val j).ownBlock ≠ some b) ∧ u.length ≤ 10000 ∧ ∀ y ∈ u, y.length = 128) := Lib.hid (by
      rw [hu0]
      refine ⟨by simpa using hrow, fun b hb => ?_, by simp, fun y hy => by rw [List.mem_singleton.1 hy]; exact HX5.out.1⟩
      rw [hvv] at hb
      have hb2 : w5.heap.size = b := by simpa [Value.ownBlock] using hb
      refine ⟨.inr (by omega), by omega, by omega, by omega, by omega, fun j hj hvj _ hbj => ?_⟩
      have := HP.out.2.1.own_lt (j := j) hj hvj hbj
      omega)
    clear hv hvv hhas hmap hu0 f1 fa hbn hs5 hrow hi0' hi1' c0 c1 c2 c3 c4 hnb hN HH HS h5 HX5
    have hsz : (Try.prog.info? 31).map (·.size) = some (cellsB s).length := by rw [infoSector, cellsB_len, HL.out]
    have hcl : (cellsB s).length = 128 := by rw [cellsB_len, HL.out]
    have hone := cellsB_one s
    have hu := Try.underlying31
    have hlt6 := h6.out.lt
    have HX : Hid (w6.rangeAt w.heap.size 0 (cellsB s) ∧ ¬ (w.heap.size = M ∨ v.ownBlock = some w.heap.size)) := Lib.hid ⟨HB6.out, fun q => by
      rcases q with q | q
      · omega
      · exact (HT.out.2.1 _ q).2.2.2.2.1 rfl⟩
    have HG : Hid (g < w6.heap.size ∧ ¬ (g = M ∨ v.ownBlock = some g) ∧ w6.cell? ⟨g, 1, none⟩ = some (.map (some M))) := Lib.hid ⟨hlt6.1, (fun q => by
      rcases q with q | q
      · exact h6.out.gM q
      · exact (HT.out.2.1 _ q).2.1 rfl), (dsk_cells h6.out.blk).2.1⟩
    have HV6 : Hid (w6.ownsRow 0 31 128 v u.length (cellsB u.flatten) ∧ True ∧ u.length ≤ 100000) := Lib.hid ⟨HT.out.1, trivial, by have := HT.out.2.2.1; omega⟩
    have HM : Hid (w6.ownsMap Try.prog 3 HV M (Maps.size D) D ∧ ¬ (v.ownBlock = some M) ∧ Maps.size D < maxLen) := Lib.hid ⟨h6.out.map, (fun q => (HT.out.2.1 _ q).2.2.2.1 rfl), by
      have h1 := h6.out.size_le
      have h2 := h6.out.n1
      simp only [maxLen]
      omega⟩
    refine wp_region_held_drew (S := fun w' => Fr (fun b => b = M ∨ v.ownBlock = some b) w6 w') (by kernel_rfl) ((Fr.refl _ _).drew) (fun hS0 => ?_)
    refine anyH_take 0 41 (.pointer (some ⟨g, 0, none⟩)) rfl rfl (by kernel_rfl) (by kernel_rfl) (by kernel_rfl) (fun _ _ _ h => h) (.inl ⟨by rfl, fun w'' hS => by go_simp⟩) hS0 ?_
    (simp only [List.setIfInBounds_toArray, List.set_cons_zero, List.set_cons_succ])
    refine anyH_take 1 42 (.pointer (some ⟨g, 0, none⟩)) rfl rfl (by kernel_rfl) (by kernel_rfl) (by kernel_rfl) (fun _ _ _ h => h) (.inl ⟨by rfl, fun w'' hS => by go_simp⟩) hS0 ?_
    (simp only [List.setIfInBounds_toArray, List.set_cons_zero, List.set_cons_succ])
    refine anyH_take 2 43 (.pointer (some ⟨g, 1, none⟩)) rfl rfl (by kernel_rfl) (by kernel_rfl) (by kernel_rfl) (fun _ _ _ h => h) (.inl ⟨by rfl, fun w'' hS => by go_simp⟩) hS0 ?_
    (simp only [List.setIfInBounds_toArray, List.set_cons_zero, List.set_cons_succ])
    refine anyH_take 3 44 (.map (some M)) rfl rfl (by kernel_rfl) (by kernel_rfl) (by kernel_rfl) (fun _ _ _ h => h) (.inl ⟨by rfl, fun w'' hS => by have q0 := (hS.cell (p := ⟨g, 1, none⟩) HG.out.1 HG.out.2.1).trans HG.out.2.2; go_simp⟩) hS0 ?_
    (simp only [List.setIfInBounds_toArray, List.set_cons_zero, List.set_cons_succ])
    refine anyH_take 4 45 (.int .i64 (i : Nat)) rfl rfl (by kernel_rfl) (by kernel_rfl) (by kernel_rfl) (fun _ _ _ h => h) (.inl ⟨by rfl, fun w'' hS => by go_simp⟩) hS0 ?_
    (simp only [List.setIfInBounds_toArray, List.set_cons_zero, List.set_cons_succ])
    refine anyH_take 5 46 v rfl rfl (by kernel_rfl) (by kernel_rfl) (by kernel_rfl) (fun _ _ _ h => h) (.inl ⟨by rfl, fun w'' hS => by go_simp⟩) hS0 ?_
    (simp only [List.setIfInBounds_toArray, List.set_cons_zero, List.set_cons_succ])
    refine anyH_take 6 47 (.agg (cellsB s).toArray) rfl rfl (by kernel_rfl) (by kernel_rfl) (by kernel_rfl) (fun _ _ _ h => h) (yieldsIf_load_mid (by rfl) _ _ rfl _ _ rfl _ _ (fun w' hS => (fun j v' hv' => (hS.cell (World.block_lt_of_cell? w6 _ (HX.out.1 j v' hv')) HX.out.2).trans (HX.out.1 j v' hv'))) hu rfl hsz) hS0 ?_
    (simp only [List.setIfInBounds_toArray, List.set_cons_zero, List.set_cons_succ])
    refine anyH_value 7 48 (.slice (some ⟨w6.heap.size, 0, none⟩) 1 1) (w6.drew.alloc (.cells (cellsB s).toArray 31)) (by kernel_rfl) rfl rfl (by rfl) (run_build_op _ rfl HL.out rfl) (hS0.alloc _) ?_
    (simp only [List.setIfInBounds_toArray, List.set_cons_zero, List.set_cons_succ])
    have hown7 := own_keep (F := fun _ => False) HV6.out.1 (((Fr.refl _ w6).drew).alloc (.cells (cellsB s).toArray 31)) (fun _ _ q => q)
    have hb7 := Blk.new w6.drew 31 (cellsB s).toArray
    obtain ⟨v', w7, hrun7, hrow7, hg7, hvb7⟩ := append_one hown7 hb7 HL.out HV6.out.2.2 38
    have fr7 : Fr (fun b => v.ownBlock = some b) w6 w7 := ((((Fr.refl (fun b => v.ownBlock = some b) w6).drew).alloc (.cells (cellsB s).toArray 31))).grown hg7 (fun k hk => .inl hk)
    have hsz7 : (w6.drew.alloc (.cells (cellsB s).toArray 31)).heap.size = w6.heap.size + 1 := by
      show (w6.heap.push _).size = w6.heap.size + 1
      simp
    refine anyH_value 8 49 v' w7 (by kernel_rfl) rfl rfl (by rfl) (run_append_op (.tmp 46) (.tmp 48) rfl rfl rfl hrun7) (fr7.mono (fun _ _ q => .inr q)) ?_
    (simp only [List.setIfInBounds_toArray, List.set_cons_zero, List.set_cons_succ])
    have hm7 := map_keep HM.out.1 fr7 HM.out.2.1
    obtain ⟨w8, hrun8, hm8, hg8⟩ := hm7.update kyT Try.underlying61 HM.out.2.2 (key := .int .i64 (i : Nat)) (val := v') HKY.out (d := .held v') (ps := []) rfl
    have fr8 : Fr (fun b => b = M) w7 w8 := (Fr.refl _ w7).grown hg8 (fun k hk => .inl (by injection hk with hk; exact hk.symm))
    refine anyH_skip 9 w8 (by kernel_rfl) rfl rfl (by rfl) (run_update_op (.tmp 44) (.tmp 45) (.tmp 49) 61 rfl rfl rfl rfl hrun8) ((fr7.mono (fun _ _ q => .inr q)).trans fr8 (fun _ _ q => .inl q)) ?_
    refine wpAnyH_done (by kernel_rfl) ?_ _
    have HW8 : Hid (DiskW (w6.drew.alloc (.cells (cellsB s).toArray 31)) F g R M D val d.step) := Lib.hid (h6.out.keep (((Fr.refl (fun _ => False) w6).drew).alloc _) (fun _ _ q => q))
    have hfa : Fr (fun b => v.ownBlock = some b) (w6.drew.alloc (.cells (cellsB s).toArray 31)) w7 := (Fr.refl _ _).grown hg7 (fun k hk => .inl hk)
    rw [hsz7] at hvb7
    have HZ7 := Lib.hid hsz7
    have f68 : Fr (fun b => b = M ∨ v.ownBlock = some b) w6 w8 := (fr7.mono (fun _ _ q => .inr q)).trans fr8 (fun _ _ q => .inl q)
    have HX8 : Hid (w8.rangeAt w.heap.size 0 (cellsB s) ∧ ¬ (w.heap.size = R)) := Lib.hid ⟨fun j z hz => (f68.cell (World.block_lt_of_cell? w6 _ (HX.out.1 j z hz)) HX.out.2).trans (HX.out.1 j z hz), by omega⟩
    have HG8 : Hid (g < w8.heap.size ∧ ¬ (g = R) ∧ w8.cell? ⟨g, 0, none⟩ = some (.slice (some ⟨R, 0, none⟩) d.step.rd.length d.step.cp)) := Lib.hid ⟨Nat.lt_of_lt_of_le hlt6.1 f68.size, h6.out.gR, (f68.cell (p := ⟨g, 0, none⟩) HG.out.1 HG.out.2.1).trans (dsk_cells h6.out.blk).1⟩
    have HR8 : Hid (Blk w8 R 31 (cellsB (d.step.rd.flatten ++ d.step.sp)).toArray) := Lib.hid (h6.out.red.keep f68 (fun q => by
      rcases q with q | q
      · exact h6.out.rM q
      · exact (HT.out.2.1 _ q).2.2.1 rfl))
    have H8 := Lib.hid (And.intro hrow7 (And.intro hfa (And.intro hvb7 (And.intro hm8 (And.intro fr8 f68)))))
    have hi0 : (0 : Int) ≤ (i : Int) := by omega
    have hi1 : (i : Int) < (d.step.rd.length : Int) := by have := HP.out.2.2.2; have e : d.step.rd.length = d.rd.length := rfl; omega
    clear hrow7 hfa hvb7 hm8 fr8 f68 hg7 hrun7 hrun8 hg8 hm7 fr7 hown7 hb7 hsz7
    go_wp2_with fail
    refine wp_region_held_drew (S := fun w' => Fr (fun b => b = R) w8 w') (by kernel_rfl) ((Fr.refl _ _).drew) (fun hS0 => ?_)
    refine anyH_take 0 50 (.pointer (some ⟨g, 0, none⟩)) rfl rfl (by kernel_rfl) (by kernel_rfl) (by kernel_rfl) (fun _ _ _ h => h) (.inl ⟨by rfl, fun w'' hS => by go_simp⟩) hS0 ?_
    (simp only [List.setIfInBounds_toArray, List.set_cons_zero, List.set_cons_succ])
    refine anyH_take 1 51 (.pointer (some ⟨g, 0, none⟩)) rfl rfl (by kernel_rfl) (by kernel_rfl) (by kernel_rfl) (fun _ _ _ h => h) (.inl ⟨by rfl, fun w'' hS => by go_simp⟩) hS0 ?_
    (simp only [List.setIfInBounds_toArray, List.set_cons_zero, List.set_cons_succ])
    refine anyH_take 2 52 (.pointer (some ⟨g, 0, none⟩)) rfl rfl (by kernel_rfl) (by kernel_rfl) (by kernel_rfl) (fun _ _ _ h => h) (.inl ⟨by rfl, fun w'' hS => by go_simp⟩) hS0 ?_
    (simp only [List.setIfInBounds_toArray, List.set_cons_zero, List.set_cons_succ])
    refine anyH_take 3 53 (.slice (some ⟨R, 0, none⟩) d.step.rd.length d.step.cp) rfl rfl (by kernel_rfl) (by kernel_rfl) (by kernel_rfl) (fun _ _ _ h => h) (.inl ⟨by rfl, fun w'' hS => by have q0 := (hS.cell (p := ⟨g, 0, none⟩) HG8.out.1 HG8.out.2.1).trans HG8.out.2.2; go_simp⟩) hS0 ?_
    (simp only [List.setIfInBounds_toArray, List.set_cons_zero, List.set_cons_succ])
    refine anyH_take 4 54 (.int .i64 (i : Nat)) rfl rfl (by kernel_rfl) (by kernel_rfl) (by kernel_rfl) (fun _ _ _ h => h) (.inl ⟨by rfl, fun w'' hS => by go_simp⟩) hS0 ?_
    (simp only [List.setIfInBounds_toArray, List.set_cons_zero, List.set_cons_succ])
    refine anyH_take 5 55 (.agg (cellsB s).toArray) rfl rfl (by kernel_rfl) (by kernel_rfl) (by kernel_rfl) (fun _ _ _ h => h) (yieldsIf_load_mid (by rfl) _ _ rfl _ _ rfl _ _ (fun w' hS => (fun j v' hv' => (hS.cell (World.block_lt_of_cell? w8 _ (HX8.out.1 j v' hv')) HX8.out.2).trans (HX8.out.1 j v' hv'))) hu rfl hsz) hS0 ?_
    (simp only [List.setIfInBounds_toArray, List.set_cons_zero, List.set_cons_succ])
    refine anyH_take 6 56 (.pointer (some ⟨R, i * 128, none⟩)) rfl rfl (by kernel_rfl) (by kernel_rfl) (by kernel_rfl) (fun _ _ _ h => h) (.inl ⟨by rfl, fun w'' hS => by go_simp⟩) hS0 ?_
    (simp only [List.setIfInBounds_toArray, List.set_cons_zero, List.set_cons_succ])
    refine anyH_skip 7 (w8.drew.setCells R (i * 128) (cellsB s)) (by kernel_rfl) rfl rfl (by rfl) (run_store_mid 31 _ _ rfl R (i * 128) (cellsB s).toArray rfl rfl (Blk.there (w := w8.drew) HR8.out (by simp [cellsB_len, HL.out, flat_len h6.out.hl]; have := HP.out.2.2.2; have e : d.step.rd.length = d.rd.length := rfl; omega)) (by rw [infoSector]; simp [cellsB_len, HL.out]) (all_oneCell_toArray (cellsB_one _))) (Fr.setCells (F := fun b => b = R) (.inl rfl) hS0) ?_
    refine wpAnyH_done (by kernel_rfl) ?_ _
    have hb9 := Blk.over (w := w8.drew) (o := i * 128) (m := s) HR8.out (by rw [HL.out, List.length_append, flat_len h6.out.hl]; have := HP.out.2.2.2; have e : d.step.rd.length = d.rd.length := rfl; omega)
    rw [patch_app (by rw [HL.out, flat_len h6.out.hl]; have := HP.out.2.2.2; have e : d.step.rd.length = d.rd.length := rfl; omega), flat_set h6.out.hl HL.out (i := i) HP.out.2.2.2] at hb9
    have f89 : Fr (fun b => b = R) w8 (w8.drew.setCells R (i * 128) (cellsB s)) := Fr.setCells (F := fun b => b = R) (.inl rfl) ((Fr.refl (fun b => b = R) w8).drew)
    have HE := Lib.hid (HW8.out.put (B := w.heap.size) (i := i) HP.out.2.2.2 (v := v) HL.out HT.out.2.2.2 (by rw [HZ7.out]; have := HF6.out.size; omega) H8.out.1 H8.out.2.1 (fun b hb => by
      obtain ⟨q1, q2, q3, q4, _, q6⟩ := HT.out.2.1 b hb
      exact ⟨q1, q2, q3, q4, q6⟩) (by rw [HZ7.out]; exact H8.out.2.2.1) H8.out.2.2.2.1 H8.out.2.2.2.2.1 hb9 f89)
    have HE2 : Hid (Fr F w (w8.drew.setCells R (i * 128) (cellsB s))) := Lib.hid ((HF6.out.trans H8.out.2.2.2.2.2 (fun j hj q => by
      rcases q with q | q
      · rw [q]; exact h6.out.fM
      · rcases (HT.out.2.1 _ q).1 with q | q
        · exact q
        · omega)).trans f89 (fun j _ q => by
      have q' : j = R := q
      rw [q']
      exact h6.out.fR))
    generalize w8.drew.setCells R (i * 128) (cellsB s) = w9 at *
    clear hb9 f89
    go_wp2_with fail
    go_ret
    exact ⟨rfl, ⟨_, _, HE.out⟩, HE2.out⟩
  · rw [if_neg hv0]
    obtain ⟨u, hu0⟩ : ∃ u, u = d.vs i := ⟨_, rfl⟩
    rw [← hu0]
    go_enter Try.func16, Try.ntmps16
    go_wp2_with (first
      | (refine wpList_put rfl 31 _ rfl _ rfl ?_)
      | (go_at_call 34; refine HH.mono ?_; rintro e w' ⟨rfl, rfl⟩))
    refine HS.mono ?_
    rintro e w6 ⟨rfl, h1, f1⟩
    have h6 := Lib.hid h1
    obtain ⟨c0, c1, c2, c3, c4⟩ := dsk_cells h1.blk
    have hhas : Maps.has D (ky i) = true := (h1.opn i hi).2 hv0
    have hat := h1.at_ i hi hv0 (.held (.slice none 0 0))
    have hmap := h1.map
    clear h1
    go_upto_region 10 with (first
      | (at_lookup; refine wpList_lookup_own_ok _ rfl _ _ 61 rfl 3 38 kyT Try.underlying61 HV (zeroSl _) (.held (.slice none 0 0)) [] rfl M _ D rfl hmap _ _ rfl HKY.out ?_; intro v ps hv; rw [hhas]))
    have hvv : v = val i := by
      rw [hat] at hv
      simp only [Option.some.injEq, Prod.mk.injEq, DataW.held.injEq] at hv
      exact hv.1
    have hnb : ¬ w.heap.size = g := by omega
    have HB6 : Hid (w6.rangeAt w.heap.size 0 (cellsB s)) := Lib.hid (sec_range HL.out (HP.out.2.2.1.keep f1 hnb))
    have HF6 : Hid (Fr F w w6) := Lib.hid ((HP.out.1.mono (G := F) (fun _ _ q => q.elim)).trans f1 (fun j _ q => by have q' : j = g := q; rw [q']; exact h6.out.fg))
    have HT : Hid (w6.ownsRow 0 31 128 v u.length (cellsB u.flatten) ∧ (∀ b, v.ownBlock = some b → (F b ∨ w.heap.size ≤ b) ∧ b ≠ g ∧ b ≠ R ∧ b ≠ M ∧ b ≠ w.heap.size ∧ ∀ j, j < d.step.rd.length → d.step.vs j ≠ [] → j ≠ i → (val j).ownBlock ≠ some b) ∧ u.length ≤ 10000 ∧ ∀ y ∈ u, y.length = 128) := Lib.hid (by
      rw [hvv, hu0]
      refine ⟨h6.out.row i hi hv0, fun b hb => ?_, hN, h6.out.all i hi⟩
      obtain ⟨q1, q2, q3, q4⟩ := h6.out.own i b hi hv0 hb
      have q5 := HP.out.2.1.own_lt hi hv0 hb
      exact ⟨.inl q1, q2, q3, q4, by omega, fun j hj hvj hne hbj => h6.out.sep i j b hi hj hv0 hvj (fun e => hne e.symm) hb hbj⟩)
    clear hv hvv hat hhas hmap hu0 f1 c0 c1 c2 c3 c4 hnb hN hx HH HS
    have hsz : (Try.prog.info? 31).map (·.size) = some (cellsB s).length := by rw [infoSector, cellsB_len, HL.out]
    have hcl : (cellsB s).length = 128 := by rw [cellsB_len, HL.out]
    have hone := cellsB_one s
    have hu := Try.underlying31
    have hlt6 := h6.out.lt
    have HX : Hid (w6.rangeAt w.heap.size 0 (cellsB s) ∧ ¬ (w.heap.size = M ∨ v.ownBlock = some w.heap.size)) := Lib.hid ⟨HB6.out, fun q => by
      rcases q with q | q
      · omega
      · exact (HT.out.2.1 _ q).2.2.2.2.1 rfl⟩
    have HG : Hid (g < w6.heap.size ∧ ¬ (g = M ∨ v.ownBlock = some g) ∧ w6.cell? ⟨g, 1, none⟩ = some (.map (some M))) := Lib.hid ⟨hlt6.1, (fun q => by
      rcases q with q | q
      · exact h6.out.gM q
      · exact (HT.out.2.1 _ q).2.1 rfl), (dsk_cells h6.out.blk).2.1⟩
    have HV6 : Hid (w6.ownsRow 0 31 128 v u.length (cellsB u.flatten) ∧ True ∧ u.length ≤ 100000) := Lib.hid ⟨HT.out.1, trivial, by have := HT.out.2.2.1; omega⟩
    have HM : Hid (w6.ownsMap Try.prog 3 HV M (Maps.size D) D ∧ ¬ (v.ownBlock = some M) ∧ Maps.size D < maxLen) := Lib.hid ⟨h6.out.map, (fun q => (HT.out.2.1 _ q).2.2.2.1 rfl), by
      have h1 := h6.out.size_le
      have h2 := h6.out.n1
      simp only [maxLen]
      omega⟩
    refine wp_region_held_drew (S := fun w' => Fr (fun b => b = M ∨ v.ownBlock = some b) w6 w') (by kernel_rfl) ((Fr.refl _ _).drew) (fun hS0 => ?_)
    refine anyH_take 0 41 (.pointer (some ⟨g, 0, none⟩)) rfl rfl (by kernel_rfl) (by kernel_rfl) (by kernel_rfl) (fun _ _ _ h => h) (.inl ⟨by rfl, fun w'' hS => by go_simp⟩) hS0 ?_
    (simp only [List.setIfInBounds_toArray, List.set_cons_zero, List.set_cons_succ])
    refine anyH_take 1 42 (.pointer (some ⟨g, 0, none⟩)) rfl rfl (by kernel_rfl) (by kernel_rfl) (by kernel_rfl) (fun _ _ _ h => h) (.inl ⟨by rfl, fun w'' hS => by go_simp⟩) hS0 ?_
    (simp only [List.setIfInBounds_toArray, List.set_cons_zero, List.set_cons_succ])
    refine anyH_take 2 43 (.pointer (some ⟨g, 1, none⟩)) rfl rfl (by kernel_rfl) (by kernel_rfl) (by kernel_rfl) (fun _ _ _ h => h) (.inl ⟨by rfl, fun w'' hS => by go_simp⟩) hS0 ?_
    (simp only [List.setIfInBounds_toArray, List.set_cons_zero, List.set_cons_succ])
    refine anyH_take 3 44 (.map (some M)) rfl rfl (by kernel_rfl) (by kernel_rfl) (by kernel_rfl) (fun _ _ _ h => h) (.inl ⟨by rfl, fun w'' hS => by have q0 := (hS.cell (p := ⟨g, 1, none⟩) HG.out.1 HG.out.2.1).trans HG.out.2.2; go_simp⟩) hS0 ?_
    (simp only [List.setIfInBounds_toArray, List.set_cons_zero, List.set_cons_succ])
    refine anyH_take 4 45 (.int .i64 (i : Nat)) rfl rfl (by kernel_rfl) (by kernel_rfl) (by kernel_rfl) (fun _ _ _ h => h) (.inl ⟨by rfl, fun w'' hS => by go_simp⟩) hS0 ?_
    (simp only [List.setIfInBounds_toArray, List.set_cons_zero, List.set_cons_succ])
    refine anyH_take 5 46 v rfl rfl (by kernel_rfl) (by kernel_rfl) (by kernel_rfl) (fun _ _ _ h => h) (.inl ⟨by rfl, fun w'' hS => by go_simp⟩) hS0 ?_
    (simp only [List.setIfInBounds_toArray, List.set_cons_zero, List.set_cons_succ])
    refine anyH_take 6 47 (.agg (cellsB s).toArray) rfl rfl (by kernel_rfl) (by kernel_rfl) (by kernel_rfl) (fun _ _ _ h => h) (yieldsIf_load_mid (by rfl) _ _ rfl _ _ rfl _ _ (fun w' hS => (fun j v' hv' => (hS.cell (World.block_lt_of_cell? w6 _ (HX.out.1 j v' hv')) HX.out.2).trans (HX.out.1 j v' hv'))) hu rfl hsz) hS0 ?_
    (simp only [List.setIfInBounds_toArray, List.set_cons_zero, List.set_cons_succ])
    refine anyH_value 7 48 (.slice (some ⟨w6.heap.size, 0, none⟩) 1 1) (w6.drew.alloc (.cells (cellsB s).toArray 31)) (by kernel_rfl) rfl rfl (by rfl) (run_build_op _ rfl HL.out rfl) (hS0.alloc _) ?_
    (simp only [List.setIfInBounds_toArray, List.set_cons_zero, List.set_cons_succ])
    have hown7 := own_keep (F := fun _ => False) HV6.out.1 (((Fr.refl _ w6).drew).alloc (.cells (cellsB s).toArray 31)) (fun _ _ q => q)
    have hb7 := Blk.new w6.drew 31 (cellsB s).toArray
    obtain ⟨v', w7, hrun7, hrow7, hg7, hvb7⟩ := append_one hown7 hb7 HL.out HV6.out.2.2 38
    have fr7 : Fr (fun b => v.ownBlock = some b) w6 w7 := ((((Fr.refl (fun b => v.ownBlock = some b) w6).drew).alloc (.cells (cellsB s).toArray 31))).grown hg7 (fun k hk => .inl hk)
    have hsz7 : (w6.drew.alloc (.cells (cellsB s).toArray 31)).heap.size = w6.heap.size + 1 := by
      show (w6.heap.push _).size = w6.heap.size + 1
      simp
    refine anyH_value 8 49 v' w7 (by kernel_rfl) rfl rfl (by rfl) (run_append_op (.tmp 46) (.tmp 48) rfl rfl rfl hrun7) (fr7.mono (fun _ _ q => .inr q)) ?_
    (simp only [List.setIfInBounds_toArray, List.set_cons_zero, List.set_cons_succ])
    have hm7 := map_keep HM.out.1 fr7 HM.out.2.1
    obtain ⟨w8, hrun8, hm8, hg8⟩ := hm7.update kyT Try.underlying61 HM.out.2.2 (key := .int .i64 (i : Nat)) (val := v') HKY.out (d := .held v') (ps := []) rfl
    have fr8 : Fr (fun b => b = M) w7 w8 := (Fr.refl _ w7).grown hg8 (fun k hk => .inl (by injection hk with hk; exact hk.symm))
    refine anyH_skip 9 w8 (by kernel_rfl) rfl rfl (by rfl) (run_update_op (.tmp 44) (.tmp 45) (.tmp 49) 61 rfl rfl rfl rfl hrun8) ((fr7.mono (fun _ _ q => .inr q)).trans fr8 (fun _ _ q => .inl q)) ?_
    refine wpAnyH_done (by kernel_rfl) ?_ _
    have HW8 : Hid (DiskW (w6.drew.alloc (.cells (cellsB s).toArray 31)) F g R M D val d.step) := Lib.hid (h6.out.keep (((Fr.refl (fun _ => False) w6).drew).alloc _) (fun _ _ q => q))
    have hfa : Fr (fun b => v.ownBlock = some b) (w6.drew.alloc (.cells (cellsB s).toArray 31)) w7 := (Fr.refl _ _).grown hg7 (fun k hk => .inl hk)
    rw [hsz7] at hvb7
    have HZ7 := Lib.hid hsz7
    have f68 : Fr (fun b => b = M ∨ v.ownBlock = some b) w6 w8 := (fr7.mono (fun _ _ q => .inr q)).trans fr8 (fun _ _ q => .inl q)
    have HX8 : Hid (w8.rangeAt w.heap.size 0 (cellsB s) ∧ ¬ (w.heap.size = R)) := Lib.hid ⟨fun j z hz => (f68.cell (World.block_lt_of_cell? w6 _ (HX.out.1 j z hz)) HX.out.2).trans (HX.out.1 j z hz), by omega⟩
    have HG8 : Hid (g < w8.heap.size ∧ ¬ (g = R) ∧ w8.cell? ⟨g, 0, none⟩ = some (.slice (some ⟨R, 0, none⟩) d.step.rd.length d.step.cp)) := Lib.hid ⟨Nat.lt_of_lt_of_le hlt6.1 f68.size, h6.out.gR, (f68.cell (p := ⟨g, 0, none⟩) HG.out.1 HG.out.2.1).trans (dsk_cells h6.out.blk).1⟩
    have HR8 : Hid (Blk w8 R 31 (cellsB (d.step.rd.flatten ++ d.step.sp)).toArray) := Lib.hid (h6.out.red.keep f68 (fun q => by
      rcases q with q | q
      · exact h6.out.rM q
      · exact (HT.out.2.1 _ q).2.2.1 rfl))
    have H8 := Lib.hid (And.intro hrow7 (And.intro hfa (And.intro hvb7 (And.intro hm8 (And.intro fr8 f68)))))
    have hi0 : (0 : Int) ≤ (i : Int) := by omega
    have hi1 : (i : Int) < (d.step.rd.length : Int) := by have := HP.out.2.2.2; have e : d.step.rd.length = d.rd.length := rfl; omega
    clear hrow7 hfa hvb7 hm8 fr8 f68 hg7 hrun7 hrun8 hg8 hm7 fr7 hown7 hb7 hsz7
    go_wp2_with fail
    refine wp_region_held_drew (S := fun w' => Fr (fun b => b = R) w8 w') (by kernel_rfl) ((Fr.refl _ _).drew) (fun hS0 => ?_)
    refine anyH_take 0 50 (.pointer (some ⟨g, 0, none⟩)) rfl rfl (by kernel_rfl) (by kernel_rfl) (by kernel_rfl) (fun _ _ _ h => h) (.inl ⟨by rfl, fun w'' hS => by go_simp⟩) hS0 ?_
    (simp only [List.setIfInBounds_toArray, List.set_cons_zero, List.set_cons_succ])
    refine anyH_take 1 51 (.pointer (some ⟨g, 0, none⟩)) rfl rfl (by kernel_rfl) (by kernel_rfl) (by kernel_rfl) (fun _ _ _ h => h) (.inl ⟨by rfl, fun w'' hS => by go_simp⟩) hS0 ?_
    (simp only [List.setIfInBounds_toArray, List.set_cons_zero, List.set_cons_succ])
    refine anyH_take 2 52 (.pointer (some ⟨g, 0, none⟩)) rfl rfl (by kernel_rfl) (by kernel_rfl) (by kernel_rfl) (fun _ _ _ h => h) (.inl ⟨by rfl, fun w'' hS => by go_simp⟩) hS0 ?_
    (simp only [List.setIfInBounds_toArray, List.set_cons_zero, List.set_cons_succ])
    refine anyH_take 3 53 (.slice (some ⟨R, 0, none⟩) d.step.rd.length d.step.cp) rfl rfl (by kernel_rfl) (by kernel_rfl) (by kernel_rfl) (fun _ _ _ h => h) (.inl ⟨by rfl, fun w'' hS => by have q0 := (hS.cell (p := ⟨g, 0, none⟩) HG8.out.1 HG8.out.2.1).trans HG8.out.2.2; go_simp⟩) hS0 ?_
    (simp only [List.setIfInBounds_toArray, List.set_cons_zero, List.set_cons_succ])
    refine anyH_take 4 54 (.int .i64 (i : Nat)) rfl rfl (by kernel_rfl) (by kernel_rfl) (by kernel_rfl) (fun _ _ _ h => h) (.inl ⟨by rfl, fun w'' hS => by go_simp⟩) hS0 ?_
    (simp only [List.setIfInBounds_toArray, List.set_cons_zero, List.set_cons_succ])
    refine anyH_take 5 55 (.agg (cellsB s).toArray) rfl rfl (by kernel_rfl) (by kernel_rfl) (by kernel_rfl) (fun _ _ _ h => h) (yieldsIf_load_mid (by rfl) _ _ rfl _ _ rfl _ _ (fun w' hS => (fun j v' hv' => (hS.cell (World.block_lt_of_cell? w8 _ (HX8.out.1 j v' hv')) HX8.out.2).trans (HX8.out.1 j v' hv'))) hu rfl hsz) hS0 ?_
    (simp only [List.setIfInBounds_toArray, List.set_cons_zero, List.set_cons_succ])
    refine anyH_take 6 56 (.pointer (some ⟨R, i * 128, none⟩)) rfl rfl (by kernel_rfl) (by kernel_rfl) (by kernel_rfl) (fun _ _ _ h => h) (.inl ⟨by rfl, fun w'' hS => by go_simp⟩) hS0 ?_
    (simp only [List.setIfInBounds_toArray, List.set_cons_zero, List.set_cons_succ])
    refine anyH_skip 7 (w8.drew.setCells R (i * 128) (cellsB s)) (by kernel_rfl) rfl rfl (by rfl) (run_store_mid 31 _ _ rfl R (i * 128) (cellsB s).toArray rfl rfl (Blk.there (w := w8.drew) HR8.out (by simp [cellsB_len, HL.out, flat_len h6.out.hl]; have := HP.out.2.2.2; have e : d.step.rd.length = d.rd.length := rfl; omega)) (by rw [infoSector]; simp [cellsB_len, HL.out]) (all_oneCell_toArray (cellsB_one _))) (Fr.setCells (F := fun b => b = R) (.inl rfl) hS0) ?_
    refine wpAnyH_done (by kernel_rfl) ?_ _
    have hb9 := Blk.over (w := w8.drew) (o := i * 128) (m := s) HR8.out (by rw [HL.out, List.length_append, flat_len h6.out.hl]; have := HP.out.2.2.2; have e : d.step.rd.length = d.rd.length := rfl; omega)
    rw [patch_app (by rw [HL.out, flat_len h6.out.hl]; have := HP.out.2.2.2; have e : d.step.rd.length = d.rd.length := rfl; omega), flat_set h6.out.hl HL.out (i := i) HP.out.2.2.2] at hb9
    have f89 : Fr (fun b => b = R) w8 (w8.drew.setCells R (i * 128) (cellsB s)) := Fr.setCells (F := fun b => b = R) (.inl rfl) ((Fr.refl (fun b => b = R) w8).drew)
    have HE := Lib.hid (HW8.out.put (B := w.heap.size) (i := i) HP.out.2.2.2 (v := v) HL.out HT.out.2.2.2 (by rw [HZ7.out]; have := HF6.out.size; omega) H8.out.1 H8.out.2.1 (fun b hb => by
      obtain ⟨q1, q2, q3, q4, _, q6⟩ := HT.out.2.1 b hb
      exact ⟨q1, q2, q3, q4, q6⟩) (by rw [HZ7.out]; exact H8.out.2.2.1) H8.out.2.2.2.1 H8.out.2.2.2.2.1 hb9 f89)
    have HE2 : Hid (Fr F w (w8.drew.setCells R (i * 128) (cellsB s))) := Lib.hid ((HF6.out.trans H8.out.2.2.2.2.2 (fun j hj q => by
      rcases q with q | q
      · rw [q]; exact h6.out.fM
      · rcases (HT.out.2.1 _ q).1 with q | q
        · exact q
        · omega)).trans f89 (fun j _ q => by
      have q' : j = R := q
      rw [q']
      exact h6.out.fR))
    generalize w8.drew.setCells R (i * 128) (cellsB s) = w9 at *
    clear hb9 f89
    go_wp2_with fail
    go_ret
    exact ⟨rfl, ⟨_, _, HE.out⟩, HE2.out⟩
end
end Go.Proofs.Ytiobmejnamdneaa
