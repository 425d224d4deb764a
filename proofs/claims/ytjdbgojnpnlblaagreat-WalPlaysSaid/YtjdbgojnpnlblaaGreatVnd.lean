/- couponref04: Need, May, Bytes, Of. -/
import Derived.Test.YtjdbgojnpnlblaaGreatVrh
namespace Go.Proofs.YtjdbgojnpnlblaaGreat
open Go.RowKit

theorem fneed_any (w : World) (n : Int) : Calls Tryz.prog 60 #[.int .i64 n] w fun e w' => e = .returned (.int .i64 (wneedN n : Nat)) ∧ w = w' := by
  by_cases h0 : n < 1
  · have : wneedN n = 0 := by simp [wneedN, h0]
    rw [this]
    go_enter Tryz.func60, Tryz.ntmps60
    go_wp2_with fail
    go_ret
    exact ⟨rfl, rfl⟩
  by_cases h1 : 60 < n
  · have : wneedN n = 0 := by simp [wneedN, h1]
    rw [this]
    have h2 : n > 60 := h1
    go_enter Tryz.func60, Tryz.ntmps60
    go_wp2_with fail
    go_ret
    exact ⟨rfl, rfl⟩
  have hn : wneedN n = needN (516 * n) := by unfold wneedN; rw [if_neg (by omega), Int.mul_comm]
  have e1 : IntKind.i64.wrap (516 * n) = 516 * n := by simp [IntKind.wrap, IntKind.signed, IntKind.bits]; omega
  have h2 : ¬ n > 60 := by omega
  have HM := Lib.hid (rneed_any w (516 * n))
  rw [hn]
  generalize needN (516 * n) = m at *
  clear hn
  go_enter Tryz.func60, Tryz.ntmps60
  go_wp2_with fail
  (with_reducible refine HM.out.mono ?_)
  rintro e w1 ⟨rfl, rfl⟩
  go_wp2_with fail
  go_ret
  exact ⟨rfl, rfl⟩
theorem may_not {r : List Chg} {k : Nat} {x : Chg} (hx : r[k]? = some x) (h : okN x = false) : mayR r = false := by
  unfold mayR
  rw [Bool.eq_false_iff]
  intro q
  simp only [Bool.and_eq_true, decide_eq_true_eq, List.all_eq_true] at q
  have := q.2.2 x (List.mem_of_getElem? hx)
  rw [h] at this
  cases this
set_option maxRecDepth 100000 in
theorem fmay_any {w : World} {v : Value} {r : List Chg} (h : RcV w v r) : Calls Tryz.prog 59 #[v] w fun e w' => e = .returned (.bool (mayR r)) ∧ w = w' := by
  obtain ⟨A, cap, rfl, h1, h2, h3⟩ := h
  obtain ⟨n, hn⟩ : ∃ n, n = r.length := ⟨_, rfl⟩
  obtain ⟨z, hz⟩ : ∃ z, z = mayR r := ⟨_, rfl⟩
  rw [← hz]
  rw [← hn] at h1 h3 ⊢
  have hn9 : n ≤ 9223372036854775807 := by simp only [maxLen] at h2; omega
  have HH := Lib.hid (And.intro hn (And.intro h3 hz))
  clear hn h1 h2 h3 hz
  go_enter Tryz.func59, Tryz.ntmps59
  go_wp2_with fail
  go_loop [3] (fun i => ∃ k : Nat, i = .int .i64 k ∧ k ≤ n ∧ Hid (∀ j x, j < k → r[j]? = some x → okN x = true)) (fun i => n - (intOf i).toNat)
  case atStart => exact ⟨0, rfl, Nat.zero_le _, Lib.hid (fun j x hj => absurd hj (by omega))⟩
  case round =>
    obtain ⟨k, rfl, hk, HV⟩ := hrel
    by_cases hlt : k < n
    · obtain ⟨b, off, rfl, hat⟩ := HH.out.2.1 (by omega)
      obtain ⟨x, hx⟩ : ∃ x, r[k]? = some x := ⟨_, List.getElem?_eq_getElem (by have := HH.out.1; omega)⟩
      have hc : w.cell? ⟨b, off + k * 513, none⟩ = some (.int .i64 x.n) := (hat k x hx).2 0 _ rfl
      have HX := Lib.hid hx
      have hi0 : (0 : Int) ≤ (k : Int) := by omega
      have hi1 : (k : Int) < (n : Int) := by omega
      clear hx hat
      by_cases hb0 : x.n < 0
      · have hzf : z = false := by
          rw [HH.out.2.2]
          exact may_not HX.out (by unfold okN; simp; omega)
        subst hzf
        go_wp2_with fail
        go_ret
        exact ⟨rfl, rfl⟩
      · by_cases hb1 : x.n > 2147483647
        · have hzf : z = false := by
            rw [HH.out.2.2]
            exact may_not HX.out (by unfold okN; simp; omega)
          subst hzf
          have hb2 : 2147483647 < x.n := hb1
          go_wp2_with fail
          go_ret
          exact ⟨rfl, rfl⟩
        · have hb2 : ¬ 2147483647 < x.n := hb1
          have hok : okN x = true := by unfold okN; simp; omega
          have HO := Lib.hid hok
          clear hok
          go_wp2_with fail
          refine ⟨⟨k + 1, by go_num, hlt, Lib.hid (fun j y hj hy => ?_)⟩, by simp [intOf]; omega⟩
          by_cases e : j = k
          · subst e
            rw [HX.out] at hy
            injection hy with hy
            rw [← hy]
            exact HO.out
          · exact HV.out j y (by omega) hy
    · obtain rfl : k = n := by omega
      have hz : z = (decide (1 ≤ k) && decide (k ≤ 60)) := by
        rw [HH.out.2.2]
        unfold mayR
        have : r.all okN = true := by
          rw [List.all_eq_true]
          intro x hx
          obtain ⟨j, hj⟩ := List.getElem?_of_mem hx
          exact HV.out j x (by have := (List.getElem?_eq_some_iff.1 hj).1; have := HH.out.1; omega) hj
        rw [this, ← HH.out.1, Bool.and_true]
      clear hlt hk
      by_cases c1 : 1 ≤ k
      · by_cases c2 : k ≤ 60
        · have g1 : (k : Int) ≥ 1 := by omega
          have g2 : (k : Int) ≤ 60 := by omega
          obtain rfl : z = true := by rw [hz, decide_eq_true c1, decide_eq_true c2]; rfl
          clear hz
          go_wp2_with fail
          go_ret
          exact ⟨rfl, rfl⟩
        · have g1 : (k : Int) ≥ 1 := by omega
          have g2 : ¬ (k : Int) ≤ 60 := by omega
          obtain rfl : z = false := by rw [hz, decide_eq_false c2, Bool.and_false]
          clear hz
          go_wp2_with fail
          go_ret
          exact ⟨rfl, rfl⟩
      · have g1 : ¬ (k : Int) ≥ 1 := by omega
        obtain rfl : z = false := by rw [hz, decide_eq_false c1, Bool.false_and]
        clear hz
        go_wp2_with fail
        go_ret
        exact ⟨rfl, rfl⟩
theorem rec_may {b : List UInt8} {m : Nat} (hl : b.length = m * 516) : recOf b = if mayR ((List.range m).map (chgOf b)) = true then some ((List.range m).map (chgOf b)) else none := by
  have e : mayR ((List.range m).map (chgOf b)) = true ↔ (b.length % 516 = 0 ∧ 1 ≤ b.length / 516 ∧ b.length / 516 ≤ 60 ∧ ∀ k, k < b.length / 516 → numOf ((b.drop (516 * k)).take 4) ≤ 2147483647) := by
    have e1 : b.length / 516 = m := by omega
    have e2 : b.length % 516 = 0 := by omega
    rw [e1, e2]
    unfold mayR
    simp only [Bool.and_eq_true, decide_eq_true_eq, List.all_eq_true, List.length_map, List.length_range, true_and]
    refine and_congr Iff.rfl (and_congr Iff.rfl ⟨fun h k hk => ?_, fun h x hx => ?_⟩)
    · have := h (chgOf b k) (List.mem_map.2 ⟨k, List.mem_range.2 hk, rfl⟩)
      unfold okN chgOf at this
      simp at this
      omega
    · obtain ⟨k, hk, rfl⟩ := List.mem_map.1 hx
      have := h k (List.mem_range.1 hk)
      unfold okN chgOf
      simp
      omega
  have e1 : b.length / 516 = m := by omega
  unfold recOf
  by_cases h : mayR ((List.range m).map (chgOf b)) = true
  · rw [if_pos (e.1 h), if_pos h, e1]
  · rw [if_neg (fun q => h (e.2 q)), if_neg h]
theorem rec_odd {b : List UInt8} (h : b.length % 516 ≠ 0) : recOf b = none := by
  unfold recOf
  rw [if_neg (fun q => h q.1)]
theorem fill_chg0 (n : Int) : Instr.fill (fun i => ([(0, 1), (1, 512)] : List (Nat × Nat))[i]?) (Value.agg (chC zChg).toArray).cells [(0, .int .i64 n)] = some (chC ⟨n, nought 512⟩).toArray := by
  rw [fill_cons (off := 0) (size := 1) rfl rfl (by simp [Value.cells])]
  simp [Value.cells, Instr.fill, chC]
theorem build_chg0 (n : Int) (w : World) : (Instr.build 120 #[(0, .int .i64 n)]).run Tryz.prog w = .ok (.agg (chC ⟨n, nought 512⟩).toArray) w := by
  unfold Instr.build
  obtain ⟨i0, hi, hz0, hz1, hz2⟩ := info_parts infoPg
  obtain ⟨i1, hj, hj0, hj1, hj2⟩ := info_parts infoI64
  have hf := fill_chg0 n
  rw [Sem.run_bind, zeroChg]
  simp [run_underlying Tryz.underlying120, sizeOf, typeInfo, hi, hj, hj1, hz1]
  rw [hf]
  rfl
section
variable {ops : Array Oper} {o : Oper} {a : Act} {Q : Exit → Act → World → Prop}
theorem wpList_build_chg0 {rest : List Oper} {w : World} (hg : o.guard = none) (x : Operand) (hop : o.op = .build 120 #[(0, x)]) {n : Int} (hx : a.eval x = .int .i64 n)
    (hK : wpList Tryz.prog ops Q rest (a.put o.dst (.agg (chC ⟨n, nought 512⟩).toArray)) w) : wpList Tryz.prog ops Q (o :: rest) a w := by
  refine wpList_plain hg fun K hK' => ?_
  have hr := build_chg0 n w
  unfold Oper.wp execOp
  simp only [hop, hx]
  simp [hr, hx, Result.andThen]
  exact hK' _ _ hK
theorem wpList_slice_chg {rest : List Oper} {w : World} (hg : o.guard = none) (x : Operand) (hop : o.op = .buildSlice 60 1 #[(0, x)]) (c : Chg) (hl : c.p.length = 512) (hx : a.eval x = .agg (chC c).toArray)
    (hK : wpList Tryz.prog ops Q rest (a.put o.dst (.slice (some ⟨w.heap.size, 0, none⟩) 1 1)) (w.alloc (.cells (chC c).toArray 120))) : wpList Tryz.prog ops Q (o :: rest) a w := by
  refine wpList_plain hg fun K hK' => ?_
  have hr := slice_of_chg c hl w
  unfold Oper.wp execOp
  simp only [hop, Array.map, hx]
  simp [hr, hx, Result.andThen]
  exact hK' _ _ hK
theorem wpList_more_chg {rest : List Oper} {w : World} (hg : o.guard = none) (s x : Operand) (hop : o.op = Op.call { callee := Callee.builtin Builtin.append, args := #[s, x], argTypes := #[60, 60] }) {base : Nat} {v : Value} {r t : List Chg} (hs : a.eval s = v) (hown : w.ownsRow base 120 513 v r.length (recC r)) {b off c : Nat} (hx : a.eval x = .slice (some ⟨b, off, none⟩) t.length c) (ht : w.rangeAt b off (recC t)) (h5 : ∀ x ∈ t, x.p.length = 512) (hN : r.length + t.length ≤ 1000000) (hb : base ≤ w.heap.size)
    (hK : ∀ v' w', w'.ownsRow base 120 513 v' (r ++ t).length (recC (r ++ t)) → w.grownBy w' v.ownBlock → (v'.ownBlock = v.ownBlock ∨ v'.ownBlock = some w.heap.size) → wpList Tryz.prog ops Q rest (a.put o.dst v') w') : wpList Tryz.prog ops Q (o :: rest) a w := by
  refine wpList_plain hg fun K hK' => ?_
  obtain ⟨v', w', hrun, ho, hg', hat⟩ := append_chg hown ht h5 hN hb (c := c) o.type
  unfold Oper.wp
  simp [execOp, hop, resolve, invoke, builtin, hs, hx, hrun, Result.andThen]
  exact hK' _ _ (hK v' w' ho hg' hat)
theorem run_append_u8_op {w : World} (s x : Operand) (hop : o.op = Op.call { callee := Callee.builtin Builtin.append, args := #[s, x], argTypes := #[68, 68] }) {v y v' : Value} {w' : World} (hs : a.eval s = v) (hx : a.eval x = y)
    (hrun : (Builtin.append_ #[68, 68] o.type #[v, y]).run Tryz.prog w = .ok v' w') : (execOp a.eval o).run Tryz.prog w = .ok (.value v') w' := by
  simp [execOp, hop, resolve, invoke, builtin, hs, hx, hrun, Result.andThen]
theorem run_copy_u8_op {w : World} (s x : Operand) (hop : o.op = Op.call { callee := Callee.builtin Builtin.copy, args := #[s, x], argTypes := #[68, 68] }) {v y v' : Value} {w' : World} (hs : a.eval s = v) (hx : a.eval x = y)
    (hrun : (Builtin.copy_ #[68, 68] o.type #[v, y]).run Tryz.prog w = .ok v' w') : (execOp a.eval o).run Tryz.prog w = .ok (.value v') w' := by
  simp [execOp, hop, resolve, invoke, builtin, hs, hx, hrun, Result.andThen]
end
theorem append_u8 {w : World} {base : Nat} {v : Value} {xs l : List UInt8} (hown : w.ownsRow base 5 1 v xs.length (cellsB xs)) {A : Option Addr} {m c : Nat} (hr : Rd w A m l) (hb : xs.length + m ≤ 140737488355328) (hbase : base ≤ w.heap.size) (ty : TypeId) :
    ∃ v' w', (Builtin.append_ #[68, 68] ty #[v, .slice A m c]).run Tryz.prog w = .ok v' w' ∧ w'.ownsRow base 5 1 v' (xs ++ l).length (cellsB (xs ++ l)) ∧ w.grownBy w' v.ownBlock ∧ (v'.ownBlock = v.ownBlock ∨ v'.ownBlock = some w.heap.size) := by
  obtain ⟨i0, hi, hz0, hz1, hz2⟩ := info_parts infoU8
  exact run_append_bytes (P := Tryz.prog) w base 68 ty 5 i0 (.int .u8 0) Tryz.underlying68 hi hz0 hz1 hz2 rfl v xs l hown A m c hr hb hbase
theorem chg_copy {w : World} {B cp : Nat} {ad : Addr} {N : Int} {p : List UInt8} (hb : Blk w B 120 (chC ⟨N, nought 512⟩).toArray) (hR : Rd w (some ad) 512 p) :
    ∃ w6, (∀ ty, (Builtin.copy_ #[68, 68] ty #[.slice (some ⟨B, 1, none⟩) 512 512, .slice (some ad) 512 cp]).run Tryz.prog w = .ok (goInt 512) w6) ∧ Blk w6 B 120 (chC ⟨N, p⟩).toArray ∧ Fr (fun x => x = B) w w6 := by
  have hpl := hR.len
  obtain ⟨ad', e, hc⟩ := hR.cellsB (by omega)
  injection e with e
  subst e
  have hth := hb.there (o := 1) (n := 512) (by simp [chC, cellsB_len, nought_len])
  refine ⟨w.setCells B 1 (cellsB p), fun ty => ?_, ?_, Fr.setCells (F := fun x => x = B) (.inl rfl) (Fr.refl _ _)⟩
  · have h := run_copy_cells (P := Tryz.prog) w 68 68 ty 5 B 1 512 512 ad 512 cp (cellsB p) Tryz.underlying68 (by kernel_rfl) (by rw [cellsB_len, hpl]; rfl)
      (fun j v hv => hc j v hv) (fun j hj => (hth j (by rw [cellsB_len, hpl] at hj; exact hj)).1) (fun j hj => (hth j (by rw [cellsB_len, hpl] at hj; exact hj)).2) (cellsB_one _)
    rw [cellsB_len, hpl] at h
    exact h
  · have hsz : (chC ⟨N, nought 512⟩).toArray.size = 513 := by simp [chC, cellsB_len, nought_len]
    obtain ⟨cs', q1, q2, q3, q4⟩ := hb.range_set (vs := cellsB p) (o := 1) (by rw [hsz, cellsB_len]; omega)
    have : cs' = (chC ⟨N, p⟩).toArray := by
      apply Array.ext_getElem?
      intro i
      cases i with
      | zero =>
        rw [q4 0 (.inl (by omega))]
        simp [chC]
      | succ i =>
        by_cases hi : i < 512
        · have := q3 i ((cellsB p)[i]'(by rw [cellsB_len]; omega)) (List.getElem?_eq_getElem _)
          rw [Nat.add_comm i 1, this, Nat.add_comm 1 i]
          simp [chC]
        · rw [Array.getElem?_eq_none (by omega), Array.getElem?_eq_none (by simp [chC, cellsB_len]; omega)]
    rw [this] at q1
    exact q1
set_option maxRecDepth 100000 in
set_option maxHeartbeats 4000000 in
theorem fbytes_any {w : World} {v : Value} {r : List Chg} (h : RcV w v r) (h60 : r.length ≤ 60) (hok : ∀ x ∈ r, okN x = true) : Calls Tryz.prog 90 #[v] w fun e w' => ∃ A c, e = .returned (.slice A (bytesR r).length c) ∧ Rd w' A (bytesR r).length (bytesR r) ∧ Fr (fun _ => False) w w' := by
  have hall := h.all512
  obtain ⟨A, cap, rfl, hc1, hc2, h3⟩ := h
  obtain ⟨n, hn⟩ : ∃ n, n = r.length := ⟨_, rfl⟩
  have hn60 : n ≤ 60 := by omega
  have HH := Lib.hid (And.intro hn (And.intro h3 (And.intro hall hok)))
  rw [← hn]
  clear hall hn hc1 hc2 h3 hok h60
  go_enter Tryz.func90, Tryz.ntmps90
  go_wp2_with fail
  go_loopw [3, 4] (fun t q wr => ∃ (k : Nat), q = .int .i64 k ∧ k ≤ n ∧ Hid (wr.ownsRow w.heap.size 5 1 t (bytesR (r.take k)).length (cellsB (bytesR (r.take k)))) ∧ Hid (Fr (fun _ => False) w wr)) (fun _ q _ => n - (intOf q).toNat)
  case atStart => exact ⟨0, rfl, Nat.zero_le _, Lib.hid (World.ownsRow_nil _ _ _ _), Lib.hid (Fr.refl _ _)⟩
  case round =>
    obtain ⟨k, rfl, hk, HO, HF⟩ := hrel
    by_cases hlt : k < n
    · obtain ⟨b, off, rfl, hat⟩ := HH.out.2.1 (by have := HH.out.1; omega)
      obtain ⟨x, hx⟩ : ∃ x, r[k]? = some x := ⟨_, List.getElem?_eq_getElem (by have := HH.out.1; omega)⟩
      have hxl := (hat k x hx).1
      have hbw : b < w.heap.size := World.block_lt_of_cell? w _ ((hat k x hx).2 0 _ rfl)
      have hr' : wr.rangeAt b (off + k * 513) (chC x) := fun j u hj => (HF.out.cell (World.block_lt_of_cell? w _ ((hat k x hx).2 j u hj)) (fun q => q)).trans ((hat k x hx).2 j u hj)
      have hts : r.take (k + 1) = r.take k ++ [x] := by rw [List.take_add_one, hx]; rfl
      have hox := HH.out.2.2.2 x (List.mem_of_getElem? hx)
      have hnx : 0 ≤ x.n ∧ x.n ≤ 2147483647 := by unfold okN at hox; simpa using hox
      obtain ⟨nn, hnn⟩ : ∃ nn : Nat, x.n = nn := ⟨x.n.toNat, by omega⟩
      have hcv : IntKind.u64.wrap (nn : Int) = (nn : Int) := by simp [IntKind.wrap, IntKind.signed, IntKind.bits]; omega
      have htl : (bytesR (r.take k)).length ≤ 31000 := by
        rw [bytesR_len (fun y hy => HH.out.2.2.1 y (List.mem_of_mem_take hy)), List.length_take]
        have := HH.out.1
        omega
      have hxn : bytesR (r.take k) ++ be nn 4 ++ x.p = bytesR (r.take (k + 1)) := by rw [hts, bytesR_snoc, hnn, List.append_assoc]; rfl
      have hc0 : wr.cell? ⟨b, off + k * 513, none⟩ = some (.int .i64 (nn : Int)) := by rw [← hnn]; exact hr' 0 _ rfl
      have HX := Lib.hid (And.intro hr' (And.intro hxl (And.intro htl (And.intro hxn (And.intro hbw hc0)))))
      have hnn2 : nn ≤ 18446744073709551615 := by omega
      have HC : Hid (∀ w', Fr (fun q => u3.ownBlock = some q) wr w' → w'.cell? ⟨b, off + k * 513, none⟩ = some (.int .i64 (nn : Int))) := Lib.hid fun w' f => by
        have hnb : ¬ u3.ownBlock = some b := fun e => by have := own_low HO.out e; have := HX.out.2.2.2.2.1; omega
        exact (f.cell (World.block_lt_of_cell? wr _ HX.out.2.2.2.2.2) hnb).trans HX.out.2.2.2.2.2
      have hi0 : (0 : Int) ≤ (k : Int) := by omega
      have hi1 : (k : Int) < (n : Int) := by omega
      clear hx hxl hr' hts hat hox htl hxn hc0 hnn hnx
      go_wp2_with fail
      refine wp_region_held_drew (S := fun w' => Fr (fun q => u3.ownBlock = some q) wr w') (by kernel_rfl) ((Fr.refl _ _).drew) (fun hS0 => ?_)
      refine anyH_take 0 11 u3 rfl rfl (by kernel_rfl) (by kernel_rfl) (by kernel_rfl) (fun _ _ _ h => h) (.inl ⟨by rfl, fun w'' hS => by go_simp⟩) hS0 ?_
      (simp only [List.setIfInBounds_toArray, List.set_cons_zero, List.set_cons_succ])
      refine anyH_take 1 12 (.slice (some ⟨b, off, none⟩) n cap) rfl rfl (by kernel_rfl) (by kernel_rfl) (by kernel_rfl) (fun _ _ _ h => h) (.inl ⟨by rfl, fun w'' hS => by go_simp⟩) hS0 ?_
      (simp only [List.setIfInBounds_toArray, List.set_cons_zero, List.set_cons_succ])
      refine anyH_take 2 13 (.int .i64 (k : Nat)) rfl rfl (by kernel_rfl) (by kernel_rfl) (by kernel_rfl) (fun _ _ _ h => h) (.inl ⟨by rfl, fun w'' hS => by go_simp⟩) hS0 ?_
      (simp only [List.setIfInBounds_toArray, List.set_cons_zero, List.set_cons_succ])
      refine anyH_take 3 14 (.pointer (some ⟨b, off + k * 513, none⟩)) rfl rfl (by kernel_rfl) (by kernel_rfl) (by kernel_rfl) (fun _ _ _ h => h) (.inl ⟨by rfl, fun w'' hS => by go_simp⟩) hS0 ?_
      (simp only [List.setIfInBounds_toArray, List.set_cons_zero, List.set_cons_succ])
      refine anyH_take 4 15 (.pointer (some ⟨b, off + k * 513, none⟩)) rfl rfl (by kernel_rfl) (by kernel_rfl) (by kernel_rfl) (fun _ _ _ h => h) (.inl ⟨by rfl, fun w'' hS => by go_simp⟩) hS0 ?_
      (simp only [List.setIfInBounds_toArray, List.set_cons_zero, List.set_cons_succ])
      refine anyH_take 5 16 (.int .i64 (nn : Int)) rfl rfl (by kernel_rfl) (by kernel_rfl) (by kernel_rfl) (fun _ _ _ h => h) (.inl ⟨by rfl, fun w'' hS => by have q := HC.out w'' hS; go_simp⟩) hS0 ?_
      (simp only [List.setIfInBounds_toArray, List.set_cons_zero, List.set_cons_succ])
      refine anyH_take 6 17 (.int .u64 (nn : Int)) rfl rfl (by kernel_rfl) (by kernel_rfl) (by kernel_rfl) (fun _ _ _ h => h) (.inl ⟨by rfl, fun w'' hS => by go_simp⟩) hS0 ?_
      (simp only [List.setIfInBounds_toArray, List.set_cons_zero, List.set_cons_succ])
      refine anyH_take 9 20 (.slice (some ⟨b, off, none⟩) n cap) rfl rfl (by kernel_rfl) (by kernel_rfl) (by kernel_rfl) (fun _ _ _ h => h) (.inl ⟨by rfl, fun w'' hS => by go_simp⟩) hS0 ?_
      (simp only [List.setIfInBounds_toArray, List.set_cons_zero, List.set_cons_succ])
      refine anyH_take 10 21 (.int .i64 (k : Nat)) rfl rfl (by kernel_rfl) (by kernel_rfl) (by kernel_rfl) (fun _ _ _ h => h) (.inl ⟨by rfl, fun w'' hS => by go_simp⟩) hS0 ?_
      (simp only [List.setIfInBounds_toArray, List.set_cons_zero, List.set_cons_succ])
      refine anyH_take 11 22 (.pointer (some ⟨b, off + k * 513, none⟩)) rfl rfl (by kernel_rfl) (by kernel_rfl) (by kernel_rfl) (fun _ _ _ h => h) (.inl ⟨by rfl, fun w'' hS => by go_simp⟩) hS0 ?_
      (simp only [List.setIfInBounds_toArray, List.set_cons_zero, List.set_cons_succ])
      refine anyH_take 12 23 (.pointer (some ⟨b, off + k * 513 + 1, none⟩)) rfl rfl (by kernel_rfl) (by kernel_rfl) (by kernel_rfl) (fun _ _ _ h => h) (.inl ⟨by rfl, fun w'' hS => by go_simp⟩) hS0 ?_
      (simp only [List.setIfInBounds_toArray, List.set_cons_zero, List.set_cons_succ])
      refine anyH_take 13 24 (.slice (some ⟨b, off + k * 513 + 1, none⟩) 512 512) rfl rfl (by kernel_rfl) (by kernel_rfl) (by kernel_rfl) (fun _ _ _ h => h) (.inl ⟨by rfl, fun w'' hS => by go_simp⟩) hS0 ?_
      (simp only [List.setIfInBounds_toArray, List.set_cons_zero, List.set_cons_succ])
      refine anyH_enter 7 18 (f := 52) (args := #[.int .u64 (nn : Int), .int .i64 4]) (by kernel_rfl) rfl rfl (by rfl) (by go_simp) ?_
      refine (rput_any wr.drew nn 4 hnn2 (by omega)).mono ?_
      rintro e w4 ⟨R4, rfl, hR4, hb4, hf4⟩
      have f4 : Fr (fun _ => False) wr w4 := Fr.trans ((Fr.refl _ wr).drew) hf4 (fun _ _ q => q)
      refine ⟨_, rfl, f4.mono (fun _ _ q => q.elim), ?_⟩
      (simp only [List.setIfInBounds_toArray, List.set_cons_zero, List.set_cons_succ])
      have hr4 := bytes_rd hb4 (be_len _ _) (by omega)
      have ho4 := own_keep HO.out f4 (fun _ _ q => q)
      obtain ⟨v5, w5, hrun5, ho5, hg5, hat5⟩ := append_u8 (c := 4) ho4 hr4 (by have := HX.out.2.2.1; omega) (by have := HF.out.size; have := f4.size; omega) 68
      have f5 : Fr (fun q => u3.ownBlock = some q) wr w5 := (f4.mono (fun _ _ q => q.elim)).grown hg5 (fun j e => .inl e)
      refine anyH_value 8 19 v5 w5 (by kernel_rfl) rfl rfl (by rfl) (run_append_u8_op (.tmp 11) (.tmp 18) rfl rfl rfl hrun5) f5 ?_
      (simp only [List.setIfInBounds_toArray, List.set_cons_zero, List.set_cons_succ])
      have hrp : Rd w5 (some ⟨b, off + k * 513 + 1, none⟩) 512 x.p := ⟨HX.out.2.1, fun _ => ⟨_, rfl, fun j c hc => by
        rw [Addr.add_mid]
        have h1 : (chC x)[1 + j]? = some (.int .u8 (c.toNat : Int)) := by
          rw [Nat.add_comm]
          simp [chC, cellsB, hc]
        have h2 := HX.out.1 (1 + j) _ h1
        have hnb : ¬ u3.ownBlock = some b := fun e => by have := own_low HO.out e; have := HX.out.2.2.2.2.1; omega
        rw [Nat.add_assoc]
        exact (f5.cell (World.block_lt_of_cell? wr _ h2) hnb).trans h2⟩⟩
      obtain ⟨v6, w6, hrun6, ho6, hg6, hat6⟩ := append_u8 (c := 512) ho5 hrp (by have := HX.out.2.2.1; rw [List.length_append, be_len]; omega) (by have := HF.out.size; have := f5.size; omega) 68
      have f6 : Fr (fun q => u3.ownBlock = some q) wr w6 := f5.grown hg6 (fun j e => by
        rcases hat5 with q | q
        · rw [q] at e; exact .inl e
        · rw [q] at e; injection e with e; have := f4.size; exact .inr (by omega))
      refine anyH_value 14 25 v6 w6 (by kernel_rfl) rfl rfl (by rfl) (run_append_u8_op (.tmp 19) (.tmp 24) rfl rfl rfl hrun6) f6 ?_
      (simp only [List.setIfInBounds_toArray, List.set_cons_zero, List.set_cons_succ])
      refine anyH_take 15 3 v6 rfl rfl (by kernel_rfl) (by kernel_rfl) (by kernel_rfl) (fun _ _ _ h => h) (.inl ⟨by rfl, fun w'' hS => by go_simp⟩) f6 ?_
      (simp only [List.setIfInBounds_toArray, List.set_cons_zero, List.set_cons_succ])
      refine wpAnyH_done (by kernel_rfl) ?_ _
      rw [HX.out.2.2.2.1] at ho6
      have H6 := Lib.hid (And.intro ho6 f6)
      clear ho6 f6 hg6 hrun6 hat6 hrp f5 hrun5 ho5 hg5 hat5 hr4 ho4 f4 hf4 hb4 hR4
      go_wp2_with fail
      exact ⟨⟨k + 1, by go_num, hlt, Lib.hid H6.out.1, Lib.hid (HF.out.trans H6.out.2 (fun i hi e => absurd (own_low HO.out e) (by omega)))⟩, by simp [intOf]; omega⟩
    · obtain rfl : k = n := by omega
      have htk : r.take k = r := List.take_of_length_le (by have := HH.out.1; omega)
      rw [htk] at HO
      obtain ⟨A', c', rfl, hc', _⟩ := own_slice HO.out
      have HE := Lib.hid (Rd.of_own HO.out)
      clear htk hc' hlt hk
      go_wp2_with fail
      go_ret
      exact ⟨A', c', rfl, HE.out, HF.out⟩
/-- What the reference's Of answers. -/
def FOfR (w : World) (o : Option (List Chg)) (e : Ending) (w' : World) : Prop :=
  (o = none → e = .returned (.tuple #[.slice none 0 0, .bool false])) ∧ (∀ r, o = some r → ∃ v, e = .returned (.tuple #[v, .bool true]) ∧ w'.ownsRow w.heap.size 120 513 v r.length (recC r)) ∧ Fr (fun _ => False) w w'
def chgs (b : List UInt8) (k : Nat) : List Chg := (List.range k).map (chgOf b)
theorem chgs_len (b : List UInt8) (k : Nat) : (chgs b k).length = k := by simp [chgs]
theorem chgs_succ (b : List UInt8) (k : Nat) : chgs b (k + 1) = chgs b k ++ [chgOf b k] := by simp [chgs, List.range_succ]
theorem chgs_512 {b : List UInt8} {m k : Nat} (h : b.length = m * 516) (hk : k ≤ m) : ∀ x ∈ chgs b k, x.p.length = 512 := fun x hx => by
  obtain ⟨j, hj, rfl⟩ := List.mem_map.1 hx
  have := List.mem_range.1 hj
  have h2 : (j + 1) * 516 ≤ m * 516 := Nat.mul_le_mul_right _ (by omega)
  simp [chgOf]
  omega
theorem recOf_512 {b : List UInt8} {r : List Chg} (h : recOf b = some r) : ∀ x ∈ r, x.p.length = 512 := by
  unfold recOf at h
  split at h
  · rename_i q
    injection h with h
    subst h
    exact chgs_512 (m := b.length / 516) (by have := q.1; omega) (Nat.le_refl _)
  · cases h
set_option maxRecDepth 100000 in
set_option maxHeartbeats 4000000 in
theorem fof_any {w : World} {A : Option Addr} {n c : Nat} {b : List UInt8} (hr : Rd w A n b) (hn : n ≤ 40000) (hnc : n ≤ c) : Calls Tryz.prog 51 #[.slice A n c] w (FOfR w (recOf b)) := by
  have hl := hr.len
  have e2 : ((n : Int) % 516) = ((n % 516 : Nat) : Int) := by omega
  by_cases hm0 : ¬ n % 516 = 0
  · have hno := Lib.hid (rec_odd (b := b) (by rw [hl]; exact hm0))
    have hqb : (((n % 516 : Nat) : Int) != 0) = true := by rw [bne_iff_ne]; omega
    generalize n % 516 = q at *
    clear hr hl hm0
    go_enter Tryz.func51, Tryz.ntmps51
    go_wp2_with fail
    refine bodyPost_ret (results_tmp2 rfl _ _ _) rfl ?_
    rw [hno.out]
    exact ⟨fun _ => rfl, (fun r q => by cases q), Fr.refl _ _⟩
  · have hm0 : n % 516 = 0 := Decidable.not_not.1 hm0
    obtain ⟨m, hm⟩ : ∃ m, n = m * 516 := ⟨n / 516, by omega⟩
    rw [hm0] at e2
    have hm77 : m ≤ 77 := by omega
    have HH := Lib.hid (And.intro hr (And.intro (hl.trans hm) hnc))
    have hl2 : Hid (n = m * 516) := Lib.hid hm
    clear hr hl hnc hm0 hm
    go_enter Tryz.func51, Tryz.ntmps51
    go_wp2_with fail
    go_loopw [4, 5] (fun t q wr => ∃ (k : Nat), q = .int .i64 ((516 * k : Nat) : Int) ∧ k ≤ m ∧ Hid (wr.ownsRow w.heap.size 120 513 t (chgs b k).length (recC (chgs b k))) ∧ Hid (Fr (fun _ => False) w wr)) (fun _ q _ => n - (intOf q).toNat)
    case atStart => exact ⟨0, rfl, Nat.zero_le _, Lib.hid (World.ownsRow_nil _ _ _ _), Lib.hid (Fr.refl _ _)⟩
    case round =>
      obtain ⟨k, rfl, hk, HO, HF⟩ := hrel
      by_cases hlt : k < m
      · have hkk : 516 * k + 516 ≤ n := by
          have h2 : (k + 1) * 516 ≤ m * 516 := Nat.mul_le_mul_right _ (by omega)
          have := hl2.out
          omega
        have hr1 := HH.out.1.keep HF.out (fun _ _ q => q)
        obtain ⟨ad, hA, hsl1, hrd1⟩ := slice_part (c := c) hr1 HH.out.2.2 (516 * k) (516 * k + 4) (by omega) (by omega)
        obtain ⟨ad', hA', hsl2, hrd2⟩ := slice_part (c := c) hr1 HH.out.2.2 (516 * k + 4) (516 * k + 516) (by omega) (by omega)
        obtain rfl : ad = ad' := by rw [hA] at hA'; injection hA'
        clear hA'
        subst hA
        have e4 : 516 * k + 4 - 516 * k = 4 := by omega
        have e5 : 516 * k + 516 - (516 * k + 4) = 512 := by omega
        rw [e4] at hsl1 hrd1
        rw [e5] at hsl2 hrd2
        obtain ⟨i, hi⟩ : ∃ i, i = 516 * k := ⟨_, rfl⟩
        obtain ⟨N0, hN0⟩ : ∃ N0, N0 = numOf ((b.drop (516 * k)).take 4) := ⟨_, rfl⟩
        obtain ⟨p, hp⟩ : ∃ p, p = (b.drop (516 * k + 4)).take 512 := ⟨_, rfl⟩
        rw [← hp] at hrd2
        have hN4 : N0 < 4294967296 := by
          have h1 := numOf_lt ((b.drop (516 * k)).take 4)
          have h2 : ((b.drop (516 * k)).take 4).length ≤ 4 := by rw [List.length_take]; omega
          rw [hN0]
          exact Nat.lt_of_lt_of_le h1 (Nat.pow_le_pow_right (by omega) h2)
        have hcv : IntKind.i64.wrap (N0 : Int) = (N0 : Int) := by simp [IntKind.wrap, IntKind.signed, IntKind.bits]; omega
        have hG : Hid (∀ W, Fr (fun _ => False) wr W → Calls Tryz.prog 83 #[.slice (some (ad.add i)) 4 (c - i)] W fun e w' => e = .returned (.int .u64 (N0 : Nat)) ∧ W = w') := Lib.hid fun W f => by
          rw [hN0, hi]
          exact rget_any (hrd1.keep f (fun _ _ q => q)) (by omega)
        have hxc : (⟨(N0 : Int), p⟩ : Chg) = chgOf b k := by rw [hN0, hp]; unfold chgOf; rw [List.drop_drop]
        rw [← hi] at hsl1 hsl2 hrd2 hkk ⊢
        have hpl : p.length = 512 := by rw [hp]; have := HH.out.2.1; have := hl2.out; simp; omega
        have hsl1' : ∀ W, (Instr.slice 68 (.slice (some ad) n c) (some (.int .i64 (i : Int))) (some (.int .i64 ((i : Int) + 4))) none).run Tryz.prog W = .ok (.slice (some (ad.add i)) 4 (c - i)) W := hsl1
        have hsl2' : ∀ W, (Instr.slice 68 (.slice (some ad) n c) (some (.int .i64 ((i : Int) + 4))) (some (.int .i64 ((i : Int) + 516))) none).run Tryz.prog W = .ok (.slice (some (ad.add (i + 4))) 512 (c - (i + 4))) W := hsl2
        have HX := Lib.hid (And.intro hrd2 (And.intro hxc (And.intro hpl hi)))
        have hw4 : IntKind.i64.wrap ((i : Int) + 4) = (i : Int) + 4 := by simp [IntKind.wrap, IntKind.signed, IntKind.bits]; omega
        have hw5 : IntKind.i64.wrap ((i : Int) + 516) = (i : Int) + 516 := by simp [IntKind.wrap, IntKind.signed, IntKind.bits]; omega
        obtain ⟨B, hB⟩ : ∃ B, B = wr.heap.size := ⟨_, rfl⟩
        have hWB := Blk.new wr 120 (chC zChg).toArray
        obtain ⟨W2, hW2, hb2, hf2, hth⟩ : ∃ W2, W2 = (wr.alloc (.cells (chC zChg).toArray 120)).setCells wr.heap.size 0 (chC ⟨(N0 : Int), nought 512⟩) ∧ Blk W2 wr.heap.size 120 (chC ⟨(N0 : Int), nought 512⟩).toArray ∧ Fr (fun _ => False) wr W2 ∧ (wr.alloc (.cells (chC zChg).toArray 120)).there wr.heap.size 0 (chC ⟨(N0 : Int), nought 512⟩).toArray.size := by
          have hz9 : (chC zChg).length = 513 := chC_len (nought_len _)
          have hx9 : (chC ⟨(N0 : Int), nought 512⟩).length = 513 := chC_len (nought_len _)
          obtain ⟨cs2, j1, j2, j3, j4⟩ := hWB.range_set (vs := chC ⟨(N0 : Int), nought 512⟩) (o := 0) (by rw [List.size_toArray, hz9, hx9]; omega)
          have hcs : cs2 = (chC ⟨(N0 : Int), nought 512⟩).toArray := by
            apply Array.ext_getElem?
            intro q
            by_cases hq : q < 513
            · have := j3 q ((chC ⟨(N0 : Int), nought 512⟩)[q]'(by rw [hx9]; exact hq)) (List.getElem?_eq_getElem _)
              rw [Nat.zero_add] at this
              rw [this, List.getElem?_toArray, List.getElem?_eq_getElem]
            · rw [Array.getElem?_eq_none (by rw [j2, List.size_toArray, hz9]; omega), Array.getElem?_eq_none (by rw [List.size_toArray, hx9]; omega)]
          rw [hcs] at j1
          exact ⟨_, rfl, j1, Fr.setCells (.inr (Nat.le_refl _)) ((Fr.refl _ wr).alloc _), hWB.there (by rw [List.size_toArray, List.size_toArray, hz9, hx9]; omega)⟩
        have H2 := Lib.hid (And.intro hb2 hf2)
        have HTH := Lib.hid hth
        have hi0 : (0 : Int) ≤ (i : Int) := by omega
        have hi1 : (i : Int) < (n : Int) := by omega
        clear hr1 hrd1 hrd2 hsl1 hsl2 hxc hpl hN0 hp hb2 hf2 hth hWB hN4 hi
        go_wp2_with fail
        refine (hG.out wr (Fr.refl _ _)).mono ?_
        rintro e w1 ⟨rfl, rfl⟩
        clear hG
        go_wp2_with (first
          | (refine wpList_build_chg0 rfl (.tmp 23) rfl (n := (N0 : Int)) rfl ?_)
          | (refine wpList_zero_agg rfl 120 rfl zeroChg ?_)
          | (refine wpList_store_mid rfl 120 _ _ rfl wr.heap.size 0 (chC ⟨(N0 : Int), nought 512⟩).toArray rfl rfl HTH.out (by rw [infoChange]; exact congrArg some (chC_len (nought_len _)).symm) (all_oneCell_toArray (chC_one _)) ?_; rw [← hW2]; clear hW2))
        (simp only [Act.put, List.setIfInBounds_toArray, List.set_cons_zero, List.set_cons_succ])
        rw [← hB] at H2 ⊢
        refine wp_region_held_drew (S := fun w' => Fr (fun q => q = B) W2 w') (by kernel_rfl) ((Fr.refl _ _).drew) (fun hS0 => ?_)
        refine anyH_take 0 25 (.pointer (some ⟨B, 1, none⟩)) rfl rfl (by kernel_rfl) (by kernel_rfl) (by kernel_rfl) (fun _ _ _ h => h) (.inl ⟨by rfl, fun w'' hS => by go_simp⟩) hS0 ?_
        (simp only [List.setIfInBounds_toArray, List.set_cons_zero, List.set_cons_succ])
        refine anyH_take 1 26 (.slice (some ⟨B, 1, none⟩) 512 512) rfl rfl (by kernel_rfl) (by kernel_rfl) (by kernel_rfl) (fun _ _ _ h => h) (.inl ⟨by rfl, fun w'' hS => by go_simp⟩) hS0 ?_
        (simp only [List.setIfInBounds_toArray, List.set_cons_zero, List.set_cons_succ])
        refine anyH_take 2 27 (.slice (some ad) n c) rfl rfl (by kernel_rfl) (by kernel_rfl) (by kernel_rfl) (fun _ _ _ h => h) (.inl ⟨by rfl, fun w'' hS => by go_simp⟩) hS0 ?_
        (simp only [List.setIfInBounds_toArray, List.set_cons_zero, List.set_cons_succ])
        refine anyH_take 3 28 (.int .i64 (i : Nat)) rfl rfl (by kernel_rfl) (by kernel_rfl) (by kernel_rfl) (fun _ _ _ h => h) (.inl ⟨by rfl, fun w'' hS => by go_simp⟩) hS0 ?_
        (simp only [List.setIfInBounds_toArray, List.set_cons_zero, List.set_cons_succ])
        refine anyH_take 4 29 (.int .i64 ((i : Int) + 4)) rfl rfl (by kernel_rfl) (by kernel_rfl) (by kernel_rfl) (fun _ _ _ h => h) (.inl ⟨by rfl, fun w'' hS => by go_simp⟩) hS0 ?_
        (simp only [List.setIfInBounds_toArray, List.set_cons_zero, List.set_cons_succ])
        refine anyH_take 5 30 (.int .i64 (i : Nat)) rfl rfl (by kernel_rfl) (by kernel_rfl) (by kernel_rfl) (fun _ _ _ h => h) (.inl ⟨by rfl, fun w'' hS => by go_simp⟩) hS0 ?_
        (simp only [List.setIfInBounds_toArray, List.set_cons_zero, List.set_cons_succ])
        refine anyH_take 6 31 (.int .i64 ((i : Int) + 516)) rfl rfl (by kernel_rfl) (by kernel_rfl) (by kernel_rfl) (fun _ _ _ h => h) (.inl ⟨by rfl, fun w'' hS => by go_simp⟩) hS0 ?_
        (simp only [List.setIfInBounds_toArray, List.set_cons_zero, List.set_cons_succ])
        refine anyH_take 7 32 (.slice (some (ad.add (i + 4))) 512 (c - (i + 4))) rfl rfl (by kernel_rfl) (by kernel_rfl) (by kernel_rfl) (fun _ _ _ h => h) (.inl ⟨by rfl, fun w'' hS => by go_simp⟩) hS0 ?_
        (simp only [List.setIfInBounds_toArray, List.set_cons_zero, List.set_cons_succ])
        obtain ⟨w6, hcp, hb6, hf6⟩ := chg_copy (cp := c - (i + 4)) (H2.out.1.keep (F := fun _ => False) ((Fr.refl _ W2).drew) (fun q => q)) ((HX.out.1.keep H2.out.2 (fun _ _ q => q)).keep (F := fun _ => False) ((Fr.refl _ W2).drew) (fun _ _ q => q))
        have f6 : Fr (fun q => q = B) W2 w6 := Fr.trans ((Fr.refl (fun q => q = B) W2).drew) hf6 (fun _ _ q => q)
        refine anyH_value 8 33 (goInt 512) w6 (by kernel_rfl) rfl rfl (by rfl) (run_copy_u8_op (.tmp 26) (.tmp 32) rfl rfl rfl (hcp _)) f6 ?_
        (simp only [List.setIfInBounds_toArray, List.set_cons_zero, List.set_cons_succ])
        refine wpAnyH_done (by kernel_rfl) ?_ _
        rw [HX.out.2.1] at hb6
        obtain ⟨x, hx⟩ : ∃ x, x = chgOf b k := ⟨_, rfl⟩
        have hxl : x.p.length = 512 := by
          rw [hx, ← HX.out.2.1]
          exact HX.out.2.2.1
        rw [← hx] at hb6
        have hrg : w6.rangeAt B 0 (chC x) := fun j u hj => by rw [hb6.cell, Nat.zero_add]; simpa using hj
        have hf7 : Fr (fun _ => False) wr w6 := H2.out.2.trans f6 (fun i hi q => by omega)
        have ho7 := (own_keep HO.out hf7 (fun _ _ q => q))
        have H7 := Lib.hid (And.intro hrg (And.intro hf7 (And.intro ho7 (And.intro hx hxl))))
        clear hrg hf7 ho7 f6 hf6 hb6 hcp hS0 hx H2
        go_wp2_with (first
          | (refine wpList_load_mid rfl 120 _ rfl B 0 rfl (chC x) _ H7.out.1 Tryz.underlying120 rfl (by rw [infoChange, chC_len H7.out.2.2.2.2]) ?_)
          | (refine wpList_slice_chg rfl (.tmp 35) rfl x H7.out.2.2.2.2 rfl ?_)
          | (at_builtin; refine wpList_more_chg rfl (.tmp 34) (.tmp 36) rfl (base := w.heap.size) (r := chgs b k) (t := [x]) rfl (own_keep H7.out.2.2.1 ((Fr.refl (fun _ => False) w6).alloc _) (fun _ _ q => q)) rfl (fun j u hj => by rw [(Blk.new w6 120 (chC x).toArray).cell, Nat.zero_add]; simpa [recC] using hj) (fun y hy => by rw [List.mem_singleton.1 hy]; exact H7.out.2.2.2.2) (by rw [chgs_len]; simp; omega) (by have := HF.out.size; have := H7.out.2.1.size; simp only [World.size_alloc]; omega) ?_; intro v8 w8 ho8 hg8 hat8; have H8 := Lib.hid (And.intro ho8 hg8); clear ho8 hg8 hat8))
        have ho9 := H8.out.1
        rw [H7.out.2.2.2.1, ← chgs_succ] at ho9
        have hf9 : Fr (fun _ => False) w w8 := (HF.out.trans (H7.out.2.1.alloc _) (fun _ _ q => q)).grown H8.out.2 (fun j e => .inr (own_low HO.out e))
        exact ⟨⟨k + 1, by have := HX.out.2.2.2; go_num, hlt, Lib.hid ho9, Lib.hid hf9⟩, by have := HX.out.2.2.2; simp [intOf]; omega⟩
      · obtain rfl : k = m := by omega
        have hkn : ((516 * k : Nat) : Int) = (n : Int) := by have := hl2.out; omega
        have hrv := rcV_of_own HO.out (chgs_512 HH.out.2.1 (Nat.le_refl k))
        have hrec := rec_may HH.out.2.1
        obtain ⟨z, hz⟩ : ∃ z, z = mayR (chgs b k) := ⟨_, rfl⟩
        have HM := Lib.hid (fmay_any hrv)
        rw [← hz] at HM
        have HE := Lib.hid (And.intro hrec hz)
        clear hrv hrec hz hlt hk
        rw [hkn]
        go_wp2_with fail
        refine HM.out.mono ?_
        rintro e w1 ⟨rfl, rfl⟩
        clear HM
        cases z with
        | false =>
          have hno : recOf b = none := by rw [HE.out.1]; have := HE.out.2; unfold chgs at this; rw [← this]; rfl
          go_wp2_with fail
          refine bodyPost_ret (results_tmp2 rfl _ _ _) rfl ?_
          rw [hno]
          exact ⟨fun _ => rfl, (fun r q => by cases q), HF.out⟩
        | true =>
          have hso : recOf b = some (chgs b k) := by rw [HE.out.1]; have := HE.out.2; unfold chgs at this ⊢; rw [← this]; rfl
          go_wp2_with fail
          refine bodyPost_ret (results_tmp2 rfl _ _ _) rfl ?_
          rw [hso]
          exact ⟨(fun q => by cases q), (fun r q => by injection q with q; subst q; exact ⟨_, rfl, HO.out⟩), HF.out⟩
end Go.Proofs.YtjdbgojnpnlblaaGreat
