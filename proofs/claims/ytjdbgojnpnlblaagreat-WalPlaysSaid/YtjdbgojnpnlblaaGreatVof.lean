/- wal: Of. -/
import Derived.Test.YtjdbgojnpnlblaaGreatVch
namespace Go.Proofs.YtjdbgojnpnlblaaGreat
open Go.RowKit

def chgOf (b : List UInt8) (k : Nat) : Chg := ⟨(numOf ((b.drop (516 * k)).take 4) : Nat), ((b.drop (516 * k)).drop 4).take 512⟩
def recOf (b : List UInt8) : Option (List Chg) :=
  if b.length % 516 = 0 ∧ 1 ≤ b.length / 516 ∧ b.length / 516 ≤ 60 ∧ ∀ k, k < b.length / 516 → numOf ((b.drop (516 * k)).take 4) ≤ 2147483647 then some ((List.range (b.length / 516)).map (chgOf b)) else none
theorem recOf_none {b : List UInt8} {k : Nat} (hk : k < b.length / 516) (h : ¬ numOf ((b.drop (516 * k)).take 4) ≤ 2147483647) : recOf b = none := by
  unfold recOf
  rw [if_neg]
  rintro ⟨_, _, _, q⟩
  exact h (q k hk)
theorem plain_addr {w : World} {a : Addr} {v : Value} (h : w.cell? a = some v) : a = ⟨a.block, a.off, none⟩ := by
  unfold World.cell? at h
  split at h
  · cases hsp : a.spot with
    | none => cases a; simp_all
    | some q => rw [hsp] at h; simp at h
  · cases h
theorem rd_plain {w : World} {A : Option Addr} {n : Nat} {l : List UInt8} (h : Rd w A n l) (hn : 0 < n) : ∃ b o, A = some ⟨b, o, none⟩ ∧ w.rangeAt b o (cellsB l) := by
  obtain ⟨ad, rfl, hc⟩ := h.cellsB hn
  have hl := h.len
  obtain ⟨u, hu⟩ : ∃ u, (cellsB l)[0]? = some u := ⟨_, List.getElem?_eq_getElem (by rw [cellsB_len]; omega)⟩
  have h0 := hc 0 u hu
  have h1 : ad.add 0 = ad := by simp [Addr.add]
  rw [h1] at h0
  have h2 := plain_addr h0
  refine ⟨ad.block, ad.off, congrArg some h2, fun j v hv => ?_⟩
  have := hc j v hv
  rw [h2, Addr.add_mid] at this
  exact this
theorem at_page (A : Option Addr) (w : World) : (Instr.arrayAt 117 (.slice A 512 512)).run Tryz.prog w = .ok (.pointer A) w := by
  simp [Instr.arrayAt, run_underlying Tryz.underlying117]
section
variable {ops : Array Oper} {o : Oper} {a : Act} {Q : Exit → Act → World → Prop}
theorem wpList_build_chg {rest : List Oper} {w : World} (hg : o.guard = none) (x y : Operand) (hop : o.op = .build 120 #[(0, x), (1, y)]) {c : Chg} (hl : c.p.length = 512) (hx : a.eval x = .int .i64 c.n) (hy : a.eval y = av c.p)
    (hK : wpList Tryz.prog ops Q rest (a.put o.dst (.agg (chC c).toArray)) w) : wpList Tryz.prog ops Q (o :: rest) a w := by
  refine wpList_plain hg fun K hK' => ?_
  have hr := build_chg c hl w
  unfold Oper.wp execOp
  simp only [hop, hx, hy]
  simp [hr, hx, hy, Result.andThen]
  exact hK' _ _ hK
end
def OfR (w : World) (o : Option (List Chg)) (e : Ending) (w' : World) : Prop :=
  (o = none → e = .returned (.tuple #[.slice none 0 0, .int .i64 4])) ∧ (∀ r, o = some r → ∃ v, e = .returned (.tuple #[v, .int .i64 0]) ∧ RcV w' v r ∧ ∀ b, v.ownBlock = some b → w.heap.size ≤ b ∧ ∃ cs, Blk w' b 120 cs) ∧ Fr (fun _ => False) w w'
set_option maxRecDepth 100000 in
theorem of_bad {w : World} {A : Option Addr} {n c : Nat} {b : List UInt8} (hr : Rd w A n b) (hn : n ≤ 4611686018427387904) (hb : ¬ (n % 516 = 0 ∧ 1 ≤ n / 516 ∧ n / 516 ≤ 60)) : Calls Tryz.prog 75 #[.slice A n c] w fun e w' => e = .returned (.tuple #[.slice none 0 0, .int .i64 4]) ∧ w = w' := by
  have e1 : ((n : Int) / 516) = ((n / 516 : Nat) : Int) := by omega
  have e2 : ((n : Int) % 516) = ((n % 516 : Nat) : Int) := by omega
  obtain ⟨m, hm⟩ : ∃ m, m = n / 516 := ⟨_, rfl⟩
  obtain ⟨r, hrr⟩ : ∃ r, r = n % 516 := ⟨_, rfl⟩
  rw [← hm] at e1 hb
  rw [← hrr] at e2 hb
  have HN := Lib.hid (wneed_any w (m : Int))
  by_cases hz : wneedN (m : Int) = 0
  · rw [hz] at HN
    clear hb hr hz hm hrr
    go_enter Tryz.func75, Tryz.ntmps75
    go_wp2_with fail
    refine HN.out.mono ?_
    rintro e w1 ⟨rfl, rfl⟩
    go_wp2_with fail
    refine bodyPost_ret (results_tmp2 rfl _ _ _) rfl ?_
    exact ⟨rfl, rfl⟩
  · have hr0 : ¬ ((r : Nat) = 0) := fun q => by
      apply hz
      unfold wneedN
      rw [if_pos (by omega)]
    have hq : ¬ ((r : Int) = 0) := by omega
    have hz' : ¬ ((wneedN (m : Int) : Nat) : Int) = 0 := by omega
    generalize wneedN (m : Int) = z at *
    have hzb : ((z : Int) == 0) = false := by rw [beq_eq_false_iff_ne]; exact hz'
    have hqb : ((r : Int) != 0) = true := by rw [bne_iff_ne]; exact hq
    clear hb hr hz hr0 hm hrr hz' hq
    go_enter Tryz.func75, Tryz.ntmps75
    go_wp2_with fail
    refine HN.out.mono ?_
    rintro e w1 ⟨rfl, rfl⟩
    go_wp2_with fail
    refine bodyPost_ret (results_tmp2 rfl _ _ _) rfl ?_
    exact ⟨rfl, rfl⟩
theorem wneed_pos {n : Nat} (h0 : 1 ≤ n) (h1 : n ≤ 60) : 1 ≤ wneedN (n : Int) := by
  unfold wneedN needN many
  rw [if_neg (by omega), if_neg (by omega)]
  omega
set_option maxRecDepth 100000 in
set_option maxHeartbeats 2000000 in
theorem of_ok {w : World} {A : Option Addr} {n c : Nat} {b : List UInt8} (hr : Rd w A n b) (hnc : n ≤ c) {m : Nat} (hm : n = m * 516) (h1 : 1 ≤ m) (h60 : m ≤ 60) (hlt : ∀ ad, A = some ad → ad.block < w.heap.size) : Calls Tryz.prog 75 #[.slice A n c] w (OfR w (recOf b)) := by
  have hrn := hr.len
  have e1 : ((n : Int) / 516) = (m : Int) := by omega
  have e2 : ((n : Int) % 516) = 0 := by omega
  have hz := wneed_pos h1 h60
  have HN := Lib.hid (wneed_any w (m : Int))
  have hz' : ¬ ((wneedN (m : Int) : Nat) : Int) = 0 := by omega
  generalize wneedN (m : Int) = z at *
  have hmr : b.length / 516 = m := by omega
  have hmo : b.length % 516 = 0 := by omega
  obtain ⟨cs, hmk, hcs⟩ := make_changes w m (by omega)
  have HB := Lib.hid (And.intro hr (And.intro hnc (And.intro hm (And.intro h1 (And.intro h60 (And.intro hlt (And.intro hmr (And.intro hmo hrn))))))))
  have HC := Lib.hid hcs
  clear hz hr hnc hrn hmr hmo hlt hcs hm
  go_enter Tryz.func75, Tryz.ntmps75
  go_wp2_with fail
  refine HN.out.mono ?_
  rintro e w1 ⟨rfl, rfl⟩
  clear HN
  go_wp2_with fail
  refine (wtaker_any _ _ _ _).mono ?_
  rintro e w2 ⟨rfl, rfl⟩
  have HX : Hid (∃ X, X = (w.alloc (.cells cs 120)).alloc (.cells #[.slice A n c] 68)) := Lib.hid ⟨_, rfl⟩
  obtain ⟨X, hX, kR, kg, hsz, hfX⟩ := alloc2 w cs #[.slice A n c] 120 68
  have hs1 : (w.alloc (.cells cs 120)).heap.size = w.heap.size + 1 := by simp
  rw [hs1]
  rw [← hX]
  clear hX hs1 HX hmk
  have HK := Lib.hid (And.intro kR (And.intro hsz hfX))
  have HBX := Lib.hid (show BoxR X (w.heap.size + 1) A n c b from ⟨kg, HB.out.1.keep hfX (fun _ _ q => q), HB.out.2.1, (fun e => by
      subst e
      have := HB.out.1.lt (by omega)
      obtain ⟨ad, h, _⟩ := this
      cases h), fun ad e => by have := HB.out.2.2.2.2.2.1 ad e; omega⟩)
  clear kR kg hsz hfX
  go_wp2_with fail
  go_loopw [27] (fun q wr => ∃ k : Nat, q = .int .i64 k ∧ k ≤ m ∧ Hid (∃ A', BoxR wr (w.heap.size + 1) A' (n - 516 * k) (c - 516 * k) (b.drop (516 * k)) ∧ ∀ ad, A' = some ad → ∃ ad0, A = some ad0 ∧ ad.block = ad0.block) ∧
    Hid (∃ cs', Blk wr w.heap.size 120 cs' ∧ cs'.size = m * 513 ∧ ∀ j, j < k → ∀ q u, (chC (chgOf b j))[q]? = some u → cs'[j * 513 + q]? = some u) ∧ Hid (∀ j, j < k → numOf ((b.drop (516 * j)).take 4) ≤ 2147483647) ∧ Hid (Fr (fun _ => False) w wr)) (fun q _ => m - (intOf q).toNat)
  case atStart => exact ⟨0, rfl, Nat.zero_le _, Lib.hid ⟨A, by simpa using HBX.out, fun ad e => ⟨ad, e, rfl⟩⟩, Lib.hid ⟨cs, HK.out.1, HC.out, fun j hj => absurd hj (by omega)⟩, Lib.hid (fun j hj => absurd hj (by omega)), Lib.hid HK.out.2.2⟩
  case round =>
    obtain ⟨k, rfl, hk, HA, HR, HN, HF⟩ := hrel
    clear HBX HK HC
    by_cases hlt : k < m
    · obtain ⟨A1, hb1, hA1⟩ := HA.out
      have hn4 : 516 ≤ n - 516 * k := by have := HB.out.2.2.1; omega
      obtain ⟨N0, p, q0, q1⟩ : ∃ N0 p, numOf ((b.drop (516 * k)).take 4) = N0 ∧ ((b.drop (516 * k)).drop 4).take 512 = p := ⟨_, _, rfl, rfl⟩
      have hpl : p.length = 512 := by rw [← q1]; have := HB.out.2.2.2.2.2.2.2.2; simp; omega
      have HQ := Lib.hid (And.intro q0 (And.intro q1 hpl))
      have HB1 := Lib.hid (And.intro hb1 hA1)
      have hi0 : (0 : Int) ≤ (k : Int) := by omega
      have hi1 : (k : Int) < (m : Int) := by omega
      clear hb1 hA1 q0 q1 hpl HA
      go_wp2_with fail
      refine (wtake_any HB1.out.1 4 (by omega)).mono ?_
      rintro e w2 ⟨rfl, hr2, ⟨A2, hb2, ha2⟩, hf2⟩
      have H2 := Lib.hid (And.intro hb2 (And.intro ha2 (And.intro hf2 hr2)))
      clear hb2 ha2 hf2 hr2
      go_wp2_with fail
      refine (numberOf_is H2.out.2.2.2 (by omega) HQ.out.1).mono ?_
      rintro e w2' ⟨rfl, rfl⟩
      by_cases hN0 : N0 ≤ 2147483647
      · have hN1 : ¬ ((N0 : Int) > 2147483647) := by omega
        have hcv : IntKind.i64.wrap (N0 : Int) = (N0 : Int) := by simp [IntKind.wrap, IntKind.signed, IntKind.bits]; omega
        have HNN := Lib.hid hN0
        go_wp2_with fail
        have hq3 := HQ.out.2.1
        refine (wtake_is H2.out.1 512 (by omega) ⟨hq3, rfl⟩).mono ?_
        rintro e w3 ⟨rfl, hr3, ⟨A3, hb3, ha3⟩, hf3⟩
        obtain ⟨pb, po, rfl, hrg⟩ := rd_plain hr3 (by omega)
        obtain ⟨cs', kR, kcs, kold⟩ := HR.out
        have f23 : Fr (fun q => q = w.heap.size + 1) wr w3 := H2.out.2.2.1.trans hf3 (fun _ _ q => q)
        have kR3 := kR.keep f23 (by omega)
        obtain ⟨x, hx⟩ : ∃ x : Chg, x = ⟨(N0 : Nat), p⟩ := ⟨_, rfl⟩
        have hxl : x.p.length = 512 := by rw [hx]; exact HQ.out.2.2
        have hxk : x = chgOf b k := by rw [hx]; unfold chgOf; rw [HQ.out.1, HQ.out.2.1]
        have hkm : (k + 1) * 513 ≤ m * 513 := Nat.mul_le_mul_right _ (by omega)
        have hth := kR3.there (o := k * 513) (n := (chC x).toArray.size) (by have := chC_len hxl; simp at this ⊢; omega)
        obtain ⟨cs2, j1, j2, j3, j4⟩ := kR3.range_set (vs := chC x) (o := k * 513) (by rw [chC_len hxl]; omega)
        have HXE := Lib.hid hx
        have hat := at_page
        have HS := Lib.hid (And.intro hrg (And.intro hth (And.intro j1 (And.intro j2 (And.intro j3 (And.intro j4 (And.intro hxl hxk)))))))
        have HT := Lib.hid (And.intro hb3 (And.intro ha3 (And.intro f23 (And.intro kold kcs))))
        clear hrg hth j1 j2 j3 j4 hxl hb3 ha3 f23 kold kcs kR3 kR hx hq3 hr3 hf3 HR hkm
        clear hxk
        go_wp2_with (first
          | (refine wpList_load_mid rfl 117 _ rfl pb po rfl (cellsB p) _ HS.out.1 Tryz.underlying117 rfl (by rw [infoPage, cellsB_len, HQ.out.2.2]) ?_)
          | (refine wpList_build_chg rfl (.tmp 38) (.tmp 42) rfl (c := ⟨(N0 : Nat), p⟩) HQ.out.2.2 rfl rfl ?_; rw [← HXE.out])
          | (refine wpList_store_mid rfl 120 _ _ rfl w.heap.size (k * 513) (chC x).toArray rfl rfl HS.out.2.1 (by rw [infoChange]; exact congrArg some (chC_len HS.out.2.2.2.2.2.2.1).symm) (all_oneCell_toArray (chC_one x)) ?_))
        have fB : Fr (fun q => q = w.heap.size) w3 (w3.setCells w.heap.size (k * 513) (chC x)) := Fr.setCells (F := fun q => q = w.heap.size) (.inl rfl) (Fr.refl _ _)
        have fC : Fr (fun _ => False) w (w3.setCells w.heap.size (k * 513) (chC x)) := Fr.setCells (.inr (Nat.le_refl _)) (HF.out.trans HT.out.2.2.1 (fun i hi q => by omega))
        refine ⟨⟨k + 1, by go_num, hlt, Lib.hid ⟨A3, ?_, fun ad e => ?_⟩, Lib.hid ⟨cs2, HS.out.2.2.1, by rw [HS.out.2.2.2.1]; exact HT.out.2.2.2.2, fun j hj q u hu => ?_⟩, Lib.hid (fun j hj => ?_), Lib.hid fC⟩, by simp [intOf]; omega⟩
        · have hbx := HT.out.1.keep fB (by omega) (fun ad e q => by
            obtain ⟨ad1, e1, e2⟩ := HT.out.2.1 ad e
            obtain ⟨ad2, e3, e4⟩ := H2.out.2.1 ad1 e1
            obtain ⟨ad3, e5, e6⟩ := HB1.out.2 ad2 e3
            have := HB.out.2.2.2.2.2.1 ad3 e5
            omega)
          have e1 : n - 516 * k - 4 - 512 = n - 516 * (k + 1) := by omega
          have e2 : c - 516 * k - 4 - 512 = c - 516 * (k + 1) := by omega
          have e3 : ((b.drop (516 * k)).drop 4).drop 512 = b.drop (516 * (k + 1)) := by rw [List.drop_drop, List.drop_drop, show 516 * k + 4 + 512 = 516 * (k + 1) by omega]
          rw [e1, e2, e3] at hbx
          exact hbx
        · obtain ⟨ad1, e1, e2⟩ := HT.out.2.1 ad e
          obtain ⟨ad2, e3, e4⟩ := H2.out.2.1 ad1 e1
          obtain ⟨ad3, e5, e6⟩ := HB1.out.2 ad2 e3
          exact ⟨ad3, e5, by omega⟩
        · by_cases hjk : j = k
          · subst hjk
            rw [← HS.out.2.2.2.2.2.2.2] at hu
            exact HS.out.2.2.2.2.1 q u hu
          · have hql : q < 513 := by
              have h1 := (List.getElem?_eq_some_iff.1 hu).1
              have h2 : (chC (chgOf b j)).length ≤ 513 := by simp [chC, cellsB_len, chgOf]; omega
              omega
            have hjm : (j + 1) * 513 ≤ k * 513 := Nat.mul_le_mul_right _ (by omega)
            rw [HS.out.2.2.2.2.2.1 (j * 513 + q) (.inl (by omega))]
            exact HT.out.2.2.2.1 j (by omega) q u hu
        · by_cases hjk : j = k
          · subst hjk
            rw [HQ.out.1]
            exact HNN.out
          · exact HN.out j (by omega)
      · have hN1 : (N0 : Int) > 2147483647 := by omega
        have hno := recOf_none (b := b) (k := k) (by rw [HB.out.2.2.2.2.2.2.1]; exact hlt) (by rw [HQ.out.1]; exact hN0)
        have HNO := Lib.hid hno
        clear hno hN0
        go_wp2_with fail
        refine bodyPost_ret (results_tmp2 rfl _ _ _) rfl ?_
        rw [HNO.out]
        exact ⟨fun _ => rfl, (fun r hr => by cases hr), HF.out.trans H2.out.2.2.1 (fun i hi q => by omega)⟩
    · obtain rfl : k = m := by omega
      obtain ⟨cs', kR, kcs, kold⟩ := HR.out
      have hsome : recOf b = some ((List.range k).map (chgOf b)) := by
        unfold recOf
        rw [HB.out.2.2.2.2.2.2.1, if_pos ⟨HB.out.2.2.2.2.2.2.2.1, h1, h60, HN.out⟩]
      have HE := Lib.hid (And.intro hsome (And.intro kR (And.intro kcs kold)))
      clear hsome kR kcs kold hlt hk
      go_wp2_with fail
      refine bodyPost_ret (results_tmp2 rfl _ _ _) rfl ?_
      rw [HE.out.1]
      refine ⟨(fun h => by cases h), fun r hr => ?_, HF.out⟩
      injection hr with hr
      subst hr
      refine ⟨.slice (some ⟨w.heap.size, 0, none⟩) k k, rfl, ⟨some ⟨w.heap.size, 0, none⟩, k, by simp, by simp, by simp only [maxLen]; omega, fun _ => ⟨w.heap.size, 0, rfl, fun i x hx => ?_⟩⟩, fun b' hb' => by injection hb' with hb'; subst hb'; exact ⟨Nat.le_refl _, cs', HE.out.2.1⟩⟩
      have hik : i < k := by
        have := (List.getElem?_eq_some_iff.1 hx).1
        simpa using this
      have hxe : x = chgOf b i := by simpa [hik] using hx.symm
      subst hxe
      refine ⟨?_, fun j u hu => ?_⟩
      · have := HB.out.2.2.2.2.2.2.2.2
        have := HB.out.2.2.1
        simp [chgOf]
        omega
      · rw [HE.out.2.1.cell, Nat.zero_add]
        exact HE.out.2.2.2 i hik j u hu
end Go.Proofs.YtjdbgojnpnlblaaGreat
