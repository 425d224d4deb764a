/- wal: Bytes. -/
import Derived.Test.YtjdbgojnpnlblaaGreatVtr
namespace Go.Proofs.YtjdbgojnpnlblaaGreat
open Go.RowKit

theorem alloc_agg {t : TypeId} {cs : Array Value} (h : ∀ w, (zeroValue t).run Tryz.prog w = .ok (.agg cs) w) (w : World) :
    (Instr.alloc t true (.tuple #[])).run Tryz.prog w = .ok (.pointer (some ⟨w.heap.size, 0, none⟩)) (w.alloc (.cells cs t)) := by
  unfold Instr.alloc
  rw [Sem.run_bind, h]
  simp only [Result.andThen_ok]
  go_simp
section
variable {ops : Array Oper} {o : Oper} {a : Act} {Q : Exit → Act → World → Prop}
theorem wpList_zero_agg {rest : List Oper} {w : World} (hg : o.guard = none) (t : TypeId) (ho : o.op = .alloc t) {cs : Array Value} (h : ∀ w, (zeroValue t).run Tryz.prog w = .ok (.agg cs) w)
    (hK : wpList Tryz.prog ops Q rest (a.put o.dst (.pointer (some ⟨w.heap.size, 0, none⟩))) (w.alloc (.cells cs t))) : wpList Tryz.prog ops Q (o :: rest) a w := by
  refine wpList_plain hg fun K hK' => ?_
  have hr := alloc_agg h w
  unfold Oper.wp execOp
  simp only [ho, Sem.run_bind, hr, Result.andThen_ok, Sem.run_pure, Oper.upon]
  exact hK' _ _ hK
end
def okN (x : Chg) : Bool := decide (0 ≤ x.n) && decide (x.n ≤ 2147483647)
def mayR (r : List Chg) : Bool := decide (1 ≤ r.length) && (decide (r.length ≤ 60) && r.all okN)
def bytesR (r : List Chg) : List UInt8 := (r.map fun x => be x.n.toNat 4 ++ x.p).flatten
theorem bytesR_snoc (r : List Chg) (x : Chg) : bytesR (r ++ [x]) = bytesR r ++ (be x.n.toNat 4 ++ x.p) := by simp [bytesR]
theorem bytesR_len {r : List Chg} (h : ∀ x ∈ r, x.p.length = 512) : (bytesR r).length = r.length * 516 := by
  unfold bytesR
  induction r with
  | nil => rfl
  | cons x r ih =>
    rw [List.map_cons, List.flatten_cons, List.length_append, ih (fun y hy => h y (by simp [hy])), List.length_cons, List.length_append, be_len, h x (by simp)]
    omega
theorem make_bytes0 (W : World) (N : Nat) (hN : N ≤ 1000000) : ∃ cs, (Instr.makeSlice 68 (.int .i64 0) (.int .i64 (N : Nat))).run Tryz.prog W = .ok (.slice (some ⟨W.heap.size, 0, none⟩) 0 N) (W.alloc (.cells cs 5)) ∧ cs.size = N := by
  obtain ⟨i0, hi, hz0, hz1, hz2⟩ := info_parts infoU8
  have h := run_make (P := Tryz.prog) W 68 5 i0 (.int .u8 0) Tryz.underlying68 hi hz0 .i64 .i64 0 N (by omega) (by omega) (by rw [hz2]; omega) (by omega)
  rw [hz1, Int.toNat_natCast] at h
  exact ⟨_, h, by simp [madeCells]⟩
theorem RcV.all512 {w : World} {v : Value} {r : List Chg} (h : RcV w v r) : ∀ x ∈ r, x.p.length = 512 := fun x hm => by
  obtain ⟨A, ca, _, _, _, h3⟩ := h
  obtain ⟨i, hi⟩ := List.getElem?_of_mem hm
  have hlt : i < r.length := (List.getElem?_eq_some_iff.1 hi).1
  obtain ⟨b, off, _, hs⟩ := h3 (by omega)
  exact (hs i x hi).1
/-- What Bytes answers. -/
def ByR (w : World) (r : List Chg) (e : Ending) (w' : World) : Prop :=
  (mayR r = false → e = .returned (.tuple #[.slice none 0 0, .int .i64 2])) ∧ (mayR r = true → ∃ A c, e = .returned (.tuple #[.slice A (bytesR r).length c, .int .i64 0]) ∧ Rd w' A (bytesR r).length (bytesR r) ∧ (bytesR r).length ≤ c) ∧ Fr (fun _ => False) w w'
set_option maxRecDepth 100000 in
theorem bytes_bad {w : World} {v : Value} {r : List Chg} (h : RcV w v r) (hl : ¬ (1 ≤ r.length ∧ r.length ≤ 60)) : Calls Tryz.prog 67 #[v] w (ByR w r) := by
  obtain ⟨A, cap, rfl, h1, h2, h3⟩ := h
  have hmay : mayR r = false := by
    unfold mayR
    rw [Bool.eq_false_iff]
    intro q
    simp only [Bool.and_eq_true, decide_eq_true_eq] at q
    exact hl ⟨q.1, q.2.1⟩
  obtain ⟨n, hn⟩ : ∃ n, n = r.length := ⟨_, rfl⟩
  have hz : wneedN (n : Int) = 0 := by unfold wneedN; rw [if_pos (by omega)]
  have HN := Lib.hid (wneed_any w (n : Int))
  rw [hz] at HN
  have HM := Lib.hid hmay
  rw [← hn]
  clear h1 h2 h3 hl hmay hn hz
  go_enter Tryz.func67, Tryz.ntmps67
  go_wp2_with fail
  refine HN.out.mono ?_
  rintro e w1 ⟨rfl, rfl⟩
  go_wp2_with fail
  refine bodyPost_ret (results_tmp2 rfl _ _ _) rfl ?_
  exact ⟨fun _ => rfl, (fun q => by rw [HM.out] at q; cases q), Fr.refl _ _⟩
set_option maxRecDepth 100000 in
set_option maxHeartbeats 2000000 in
theorem bytes_ok {w : World} {v : Value} {r : List Chg} (h : RcV w v r) (h1 : 1 ≤ r.length) (h60 : r.length ≤ 60) : Calls Tryz.prog 67 #[v] w (ByR w r) := by
  have hall := h.all512
  obtain ⟨A, cap, rfl, hc1, hc2, h3⟩ := h
  obtain ⟨b, off, rfl, hat⟩ := h3 (by omega)
  obtain ⟨n, hn⟩ : ∃ n, n = r.length := ⟨_, rfl⟩
  have hz := wneed_pos (n := n) (by omega) (by omega)
  have HN := Lib.hid (wneed_any w (n : Int))
  have hzb : ((wneedN (n : Int) : Nat) : Int) ≠ 0 := by omega
  generalize wneedN (n : Int) = z at *
  have hzb2 : ((z : Int) == 0) = false := by rw [beq_eq_false_iff_ne]; exact hzb
  obtain ⟨cs, hmk, hcs⟩ := make_bytes0 w (n * 516) (by omega)
  have hmk' : (Instr.makeSlice 68 (.int .i64 0) (.int .i64 ((n : Int) * 516))).run Tryz.prog w = .ok (.slice (some ⟨w.heap.size, 0, none⟩) 0 (n * 516)) (w.alloc (.cells cs 5)) := hmk
  have hn60 : n ≤ 60 := by omega
  have HH := Lib.hid (And.intro hn (And.intro hat (And.intro hall (And.intro h1 (And.intro h60 hcs)))))
  have hbl : b < w.heap.size := by
    obtain ⟨x, hx⟩ : ∃ x, r[0]? = some x := ⟨_, List.getElem?_eq_getElem (by omega)⟩
    have hl := chC_len (hat 0 x hx).1
    obtain ⟨c, hc⟩ : ∃ c, (chC x)[0]? = some c := ⟨_, rfl⟩
    exact World.block_lt_of_cell? w _ ((hat 0 x hx).2 0 c hc)
  rw [← hn]
  clear hat hall hn hc1 hc2 h3 hz hzb hmk hcs h1 h60
  go_enter Tryz.func67, Tryz.ntmps67
  go_wp2_with fail
  refine HN.out.mono ?_
  rintro e w1 ⟨rfl, rfl⟩
  clear HN
  go_wp2_with fail
  have hw0 : (w.alloc (.cells cs 5)).ownsRow w.heap.size 5 1 (.slice (some ⟨w.heap.size, 0, none⟩) 0 (n * 516)) (bytesR (r.take 0)).length (cellsB (bytesR (r.take 0))) := ⟨rfl, .inr ⟨w.heap.size, n * 516, cs, rfl, Nat.le_refl _, Blk.new w _ _, Nat.zero_le _, by simp only [maxLen]; omega, by have := HH.out.2.2.2.2.2; omega, by simp [bytesR, cellsB]⟩⟩
  have HW0 := Lib.hid (And.intro hw0 ((Fr.refl (fun _ => False) w).alloc (.cells cs 5)))
  clear hw0 hmk'
  go_loopw [4, 17] (fun t q wr => ∃ (k : Nat), q = .int .i64 k ∧ k ≤ n ∧ Hid (wr.ownsRow w.heap.size 5 1 t (bytesR (r.take k)).length (cellsB (bytesR (r.take k)))) ∧ Hid (∀ x ∈ r.take k, okN x = true) ∧ Hid (Fr (fun _ => False) w wr)) (fun _ q _ => n - (intOf q).toNat)
  case atStart => exact ⟨0, rfl, Nat.zero_le _, Lib.hid HW0.out.1, Lib.hid (fun x hx => by simp at hx), Lib.hid HW0.out.2⟩
  case round =>
    obtain ⟨k, rfl, hk, HO, HV, HF⟩ := hrel
    clear HW0
    by_cases hlt : k < n
    · obtain ⟨x, hx⟩ : ∃ x, r[k]? = some x := ⟨_, List.getElem?_eq_getElem (by have := HH.out.1; omega)⟩
      have hxl := (HH.out.2.1 k x hx).1
      have hr := (HH.out.2.1 k x hx).2
      have hr' : wr.rangeAt b (off + k * 513) (chC x) := fun j u hj => (HF.out.cell (World.block_lt_of_cell? w _ (hr j u hj)) (fun q => q)).trans (hr j u hj)
      have hts : r.take (k + 1) = r.take k ++ [x] := by rw [List.take_add_one, hx]; rfl
      obtain ⟨W2, hW2, hb2, hf2, hth⟩ : ∃ W2, W2 = (wr.alloc (.cells (chC zChg).toArray 120)).setCells wr.heap.size 0 (chC x) ∧ (∃ cs2, Blk W2 wr.heap.size 120 cs2 ∧ ∀ j u, (chC x)[j]? = some u → cs2[j]? = some u) ∧ Fr (fun _ => False) wr W2 ∧ (wr.alloc (.cells (chC zChg).toArray 120)).there wr.heap.size 0 (chC x).toArray.size := by
        have hbn := Blk.new wr 120 (chC zChg).toArray
        have hz9 : (chC zChg).length = 513 := chC_len (nought_len _)
        have hx9 : (chC x).length = 513 := chC_len hxl
        obtain ⟨cs2, j1, j2, j3, j4⟩ := hbn.range_set (vs := chC x) (o := 0) (by rw [List.size_toArray, hz9, hx9]; omega)
        exact ⟨_, rfl, ⟨cs2, j1, fun j u hu => by have := j3 j u hu; rwa [Nat.zero_add] at this⟩, Fr.setCells (.inr (Nat.le_refl _)) ((Fr.refl _ wr).alloc _), hbn.there (by rw [List.size_toArray, List.size_toArray, hz9, hx9]; omega)⟩
      obtain ⟨cs2, hb2, hj2⟩ := hb2
      have e0 : W2.cell? ⟨wr.heap.size, 0, none⟩ = some (.int .i64 x.n) := by rw [hb2.cell]; exact hj2 0 _ rfl
      have hrp : Rd W2 (some ⟨wr.heap.size, 1, none⟩) 512 x.p := ⟨hxl, fun _ => ⟨_, rfl, fun j c hc => by
        rw [Addr.add_mid, hb2.cell]
        have : (chC x)[1 + j]? = some (.int .u8 (c.toNat : Int)) := by
          rw [Nat.add_comm]
          simp [chC, cellsB, hc]
        exact hj2 (1 + j) _ this⟩⟩
      have HX := Lib.hid (And.intro hx (And.intro hxl (And.intro hr' (And.intro hts (And.intro hf2 hrp)))))
      have HTH := Lib.hid hth
      have hi0 : (0 : Int) ≤ (k : Int) := by omega
      have hi1 : (k : Int) < (n : Int) := by omega
      clear hx hxl hr hr' hts hb2 hf2 hth hrp hj2
      by_cases hb0 : x.n < 0
      · have hno : mayR r = false := by
          unfold mayR
          rw [Bool.eq_false_iff]
          intro q
          simp only [Bool.and_eq_true, decide_eq_true_eq, List.all_eq_true] at q
          have := q.2.2 x (List.mem_of_getElem? HX.out.1)
          unfold okN at this
          simp only [Bool.and_eq_true, decide_eq_true_eq] at this
          omega
        have HNO := Lib.hid hno
        clear hno
        go_wp2_with (first
          | (refine wpList_load_mid rfl 120 _ rfl b (off + k * 513) rfl (chC x) _ HX.out.2.2.1 Tryz.underlying120 rfl (by rw [infoChange, chC_len HX.out.2.1]) ?_)
          | (refine wpList_zero_agg rfl 120 rfl zeroChg ?_)
          | (refine wpList_store_mid rfl 120 _ _ rfl wr.heap.size 0 (chC x).toArray rfl rfl HTH.out (by rw [infoChange]; exact congrArg some (chC_len HX.out.2.1).symm) (all_oneCell_toArray (chC_one x)) ?_; rw [← hW2]; clear hW2))
        refine bodyPost_ret (results_tmp2 rfl _ _ _) rfl ?_
        exact ⟨fun _ => rfl, (fun q => by rw [HNO.out] at q; cases q), HF.out.trans HX.out.2.2.2.2.1 (fun _ _ q => q)⟩
      by_cases hb1 : x.n > 2147483647
      · have hb1' : 2147483647 < x.n := hb1
        have hno : mayR r = false := by
          unfold mayR
          rw [Bool.eq_false_iff]
          intro q
          simp only [Bool.and_eq_true, decide_eq_true_eq, List.all_eq_true] at q
          have := q.2.2 x (List.mem_of_getElem? HX.out.1)
          unfold okN at this
          simp only [Bool.and_eq_true, decide_eq_true_eq] at this
          omega
        have HNO := Lib.hid hno
        clear hno
        go_wp2_with (first
          | (refine wpList_load_mid rfl 120 _ rfl b (off + k * 513) rfl (chC x) _ HX.out.2.2.1 Tryz.underlying120 rfl (by rw [infoChange, chC_len HX.out.2.1]) ?_)
          | (refine wpList_zero_agg rfl 120 rfl zeroChg ?_)
          | (refine wpList_store_mid rfl 120 _ _ rfl wr.heap.size 0 (chC x).toArray rfl rfl HTH.out (by rw [infoChange]; exact congrArg some (chC_len HX.out.2.1).symm) (all_oneCell_toArray (chC_one x)) ?_; rw [← hW2]; clear hW2))
        refine bodyPost_ret (results_tmp2 rfl _ _ _) rfl ?_
        exact ⟨fun _ => rfl, (fun q => by rw [HNO.out] at q; cases q), HF.out.trans HX.out.2.2.2.2.1 (fun _ _ q => q)⟩
      obtain ⟨nn, hnn⟩ : ∃ nn : Nat, x.n = nn := ⟨x.n.toNat, by omega⟩
      have hcv : IntKind.u64.wrap (nn : Int) = (nn : Int) := by simp [IntKind.wrap, IntKind.signed, IntKind.bits]; omega
      rw [hnn] at e0 hb0 hb1
      go_wp2_with (first
        | (refine wpList_load_mid rfl 120 _ rfl b (off + k * 513) rfl (chC x) _ HX.out.2.2.1 Tryz.underlying120 rfl (by rw [infoChange, chC_len HX.out.2.1]) ?_)
        | (refine wpList_zero_agg rfl 120 rfl zeroChg ?_)
        | (refine wpList_store_mid rfl 120 _ _ rfl wr.heap.size 0 (chC x).toArray rfl rfl HTH.out (by rw [infoChange]; exact congrArg some (chC_len HX.out.2.1).symm) (all_oneCell_toArray (chC_one x)) ?_; rw [← hW2]; clear hW2))
      have ho2 := own_keep HO.out HX.out.2.2.2.2.1 (fun _ _ q => q)
      have hol := fun j hj => (HO.out.lt j hj).2
      have htl : (bytesR (r.take k)).length ≤ 31000 := by
        rw [bytesR_len (fun y hy => HH.out.2.2.1 y (List.mem_of_mem_take hy)), List.length_take]
        have := HH.out.1
        omega
      have hxn : be nn 4 ++ x.p = be x.n.toNat 4 ++ x.p := by rw [hnn]; rfl
      have hok : okN x = true := by unfold okN; rw [hnn]; simp; omega
      have HY := Lib.hid (And.intro hol (And.intro htl (And.intro hxn hok)))
      clear htl hol hxn hok e0 hb0
      refine (appnum_any ho2 (by have := HF.out.size; have := HX.out.2.2.2.2.1.size; omega) nn 4 (by omega) (by omega) (by have := HY.out.2.1; omega)).mono ?_
      rintro e w3 ⟨v3, rfl, ho3, hf3, _⟩
      have hrp3 := HX.out.2.2.2.2.2.keep hf3 (fun ad e q => by
        injection e with e
        subst e
        have := HY.out.1 _ q
        simp at this)
      have H3 := Lib.hid (And.intro ho3 (And.intro hf3 hrp3))
      clear ho2 ho3 hf3 hrp3 hnn hcv hb1
      go_wp2_with (refine wpList_more rfl _ _ rfl w.heap.size v3 (bytesR (r.take k) ++ be nn 4) x.p rfl H3.out.1 _ 512 512 rfl H3.out.2.2 (by have := HY.out.2.1; rw [List.length_append, be_len]; omega) (by have := HF.out.size; have := HX.out.2.2.2.2.1.size; have := H3.out.2.1.size; omega) ?_; intro v4 w4 ho4 hg4 hat4; have H4 := Lib.hid (And.intro ho4 hg4); clear ho4 hg4 hat4)
      have h4 := H4.out.1
      rw [List.append_assoc, HY.out.2.2.1, ← bytesR_snoc, ← HX.out.2.2.2.1] at h4
      refine ⟨⟨k + 1, by go_num, hlt, Lib.hid h4, Lib.hid (fun y hy => ?_), Lib.hid ?_⟩, by simp [intOf]; omega⟩
      · rw [HX.out.2.2.2.1] at hy
        rcases List.mem_append.1 hy with q | q
        · exact HV.out y q
        · rw [List.mem_singleton.1 q]
          exact HY.out.2.2.2
      · exact ((HF.out.trans HX.out.2.2.2.2.1 (fun _ _ q => q)).trans H3.out.2.1 (fun i hi q => absurd (own_low HO.out q) (by omega))).grown H4.out.2 (fun i hi => .inr (own_low H3.out.1 hi))
    · obtain rfl : k = n := by omega
      have htk : r.take k = r := List.take_of_length_le (by have := HH.out.1; omega)
      rw [htk] at HO HV
      have hmay : mayR r = true := by
        unfold mayR
        simp only [Bool.and_eq_true, decide_eq_true_eq, List.all_eq_true]
        exact ⟨HH.out.2.2.2.1, HH.out.2.2.2.2.1, HV.out⟩
      obtain ⟨A', c', rfl, hc', _⟩ := own_slice HO.out
      have HE := Lib.hid (And.intro hmay (And.intro (Rd.of_own HO.out) hc'))
      clear htk hmay hc' hlt hk
      go_wp2_with fail
      refine bodyPost_ret (results_tmp2 rfl _ _ _) rfl ?_
      exact ⟨(fun q => by rw [HE.out.1] at q; cases q), fun _ => ⟨A', c', rfl, HE.out.2.1, HE.out.2.2⟩, HF.out⟩
theorem bytes_any {w : World} {v : Value} {r : List Chg} (h : RcV w v r) : Calls Tryz.prog 67 #[v] w (ByR w r) := by
  by_cases hl : 1 ≤ r.length ∧ r.length ≤ 60
  · exact bytes_ok h hl.1 hl.2
  · exact bytes_bad h hl
end Go.Proofs.YtjdbgojnpnlblaaGreat
