/- The document's page: With, Without. -/
import Derived.Test.YtijdbngjnhhheaaPrs
namespace Go.Proofs.Ytijdbngjnhhheaa
open Go.RowKit

set_option maxRecDepth 100000 in
/-- The two blocks that With and Without begin with. -/
theorem two_refs (w : World) (v0 v1 v2 : Value) : ∃ X, X = (w.alloc (.cells #[v0, v1, v2] 74)).alloc (.cells #[.int .i64 0, .int .i64 0, .slice none 0 0] 74) ∧
    Blk X w.heap.size 74 #[v0, v1, v2] ∧ Blk X (w.heap.size + 1) 74 #[.int .i64 0, .int .i64 0, .slice none 0 0] ∧ Fr (fun _ => False) w X ∧ X.heap.size = w.heap.size + 2 := by
  obtain ⟨X1, hX1⟩ : ∃ X, X = w.alloc (.cells #[v0, v1, v2] 74) := ⟨_, rfl⟩
  obtain ⟨X2, hX2⟩ : ∃ X, X = X1.alloc (.cells #[.int .i64 0, .int .i64 0, .slice none 0 0] 74) := ⟨_, rfl⟩
  have z1 : X1.heap.size = w.heap.size + 1 := by rw [hX1]; show (w.heap.push _).size = _; simp
  have z2 : X2.heap.size = w.heap.size + 2 := by rw [hX2]; show (X1.heap.push _).size = _; simp [z1]
  have g1 : Fr (fun _ => False) w X1 := by rw [hX1]; exact (Fr.refl _ _).alloc _
  have g2 : Fr (fun _ => False) X1 X2 := by rw [hX2]; exact (Fr.refl _ _).alloc _
  have b1 : Blk X2 w.heap.size 74 #[v0, v1, v2] := Blk.keep (w := X1) (by rw [hX1]; exact Blk.new _ _ _) g2 (fun q => q)
  have b2 : Blk X2 (w.heap.size + 1) 74 #[.int .i64 0, .int .i64 0, .slice none 0 0] := by rw [hX2, ← z1]; exact Blk.new _ _ _
  exact ⟨X2, by rw [hX2, hX1], b1, b2, g1.trans g2 (fun _ _ q => q), z2⟩
structure TwoB (X w : World) (v0 v1 v2 : Value) : Prop where
  b1 : Blk X w.heap.size 74 #[v0, v1, v2]
  b2 : Blk X (w.heap.size + 1) 74 #[.int .i64 0, .int .i64 0, .slice none 0 0]
  f0 : Fr (fun _ => False) w X
  z0 : X.heap.size = w.heap.size + 2
set_option maxRecDepth 100000 in
theorem infoRef : (Try.prog.info? 74).map (·.size) = some 3 := by kernel_rfl
section
variable {K : Value → Prop} {w : World} {A : Option Addr} {s : List Rec} {c : Nat}
set_option maxRecDepth 100000 in
theorem With_any {kd nx : Int} (hR : RecsB K w A s) (hKn : K (.slice none 0 0)) (hc : s.length ≤ c) (h9 : s.length ≤ 200) {i : Nat} (hi : i ≤ s.length) {b : List UInt8} {Ab : Option Addr} {nb cb : Nat} (hnb : nb = b.length) (hb : Rd w Ab nb b) (hKb : K (.slice Ab nb cb)) :
    Calls Try.prog 43 #[.agg #[.int .i64 kd, .int .i64 nx, .slice A s.length c], .int .i64 i, .slice Ab nb cb] w fun e w' =>
      ∃ A' n' c', e = .returned (.agg #[.int .i64 kd, .int .i64 nx, .slice A' n' c']) ∧ n' = (putS s i (some b)).length ∧ n' ≤ c' ∧ RecsB K w' A' (putS s i (some b)) ∧ (∀ CB : Nat, A' = some ⟨CB, 0, none⟩ → w.heap.size ≤ CB) ∧ Fr (fun _ => False) w w' := by
  obtain ⟨m, hm⟩ : ∃ m, m = s.length := ⟨_, rfl⟩
  obtain ⟨X, hX, b1, b2, f0, z0⟩ := two_refs w (.int .i64 kd) (.int .i64 nx) (.slice A m c)
  have c2 := b1.cell 2
  simp at c2
  have HR := Lib.hid (And.intro hR f0)
  have hrb : RecV w (some b) (.bool true) (.slice Ab nb cb) := ⟨rfl, Ab, cb, by rw [hnb], hnb ▸ hb⟩
  have HRb := Lib.hid hrb
  have HB : Hid (TwoB X w (.int .i64 kd) (.int .i64 nx) (.slice A m c)) := Lib.hid ⟨b1, b2, f0, z0⟩
  have HM := Lib.hid hm
  have HKn : Hid (K (.slice none 0 0) ∧ Und w.heap.size (.slice none 0 0)) := Lib.hid ⟨hKn, fun ad n c e => by cases e⟩
  have HXX := Lib.hid hX
  have HUnd : Hid (K (.slice Ab nb cb) ∧ Und w.heap.size (.slice Ab nb cb)) := Lib.hid ⟨hKb, fun ad n c e hn => HRb.out.lt e hn⟩
  rw [← hm] at hc h9 hi ⊢
  have e7 : (i : Int) = (i : Int) := rfl
  clear hR hKn hm hnb hb hKb b1 b2 f0 z0 hX hrb e7
  go_enter Try.func43, Try.ntmps43
  go_upto_region 1 with (fail)
  (simp only [← HXX.out])
  go_upto_region 2 with (refine wpList_copy_slots rfl (.tmp 9) rfl HR.out.1 HR.out.2 HM.out rfl (by omega) ?_; intro v w1 hv1 f1; have HV := Lib.hid hv1; have HFw := Lib.hid f1; clear hv1 f1)
  obtain ⟨A1, k1, hv, hk1, -, -⟩ := HV.out.recs
  rw [← HM.out] at hv hk1
  subst hv
  clear c2
  by_cases him : i < m
  · have himZ : ((i : Int) == (m : Int)) = false := by simp; omega
    go_upto_region 4 with (fail)
    have hln : s.length = m := HM.out.symm
    have HLN := Lib.hid hln
    obtain ⟨CB, cap, cur, hv, hbase, hcc, -, hBl, hcs, hall⟩ := HV.out.open_ (by omega)
    rw [hln] at hv
    injection hv with hA1 _ hk
    subst hA1 hk
    have hbX : w.heap.size + 2 ≤ CB := by have := HB.out.z0; omega
    have hrw := (HRb.out.new HR.out.2).new HFw.out
    have hof : Off (.slice (some ⟨CB, 0, none⟩) s.length k1) (.slice Ab nb cb) := fun ad n c e hn hb => by
      have := HUnd.out.2 ad n c e hn
      simp only [Value.ownBlock, Option.some.injEq] at hb
      omega
    rw [← hln] at hk1
    rw [← hln] at HV
    have hall2 := hall
    have hsst := slot_store (v := .slice (some ⟨CB, 0, none⟩) s.length k1) (K := fun u => K u ∧ Und w.heap.size u) rfl hBl hcs hcc hall (o := (some b)) hrw hof HUnd.out (i := i) (by rw [HLN.out]; omega)
    have HRB := Lib.hid hsst
    have fst : Fr (fun b => b = CB) w1 ((w1.setCell ⟨CB, i * 2, none⟩ (.bool true)).setCell ⟨CB, i * 2 + 1, none⟩ (.slice Ab nb cb)) := ((Fr.refl (fun b => b = CB) w1).setCell (p := ⟨CB, i * 2, none⟩) (.inl rfl) _).setCell (p := ⟨CB, i * 2 + 1, none⟩) (.inl rfl) _
    have HY : Hid (Blk ((w1.setCell ⟨CB, i * 2, none⟩ (.bool true)).setCell ⟨CB, i * 2 + 1, none⟩ (.slice Ab nb cb)) w.heap.size 74 #[.int .i64 kd, .int .i64 nx, .slice A m c] ∧ Blk ((w1.setCell ⟨CB, i * 2, none⟩ (.bool true)).setCell ⟨CB, i * 2 + 1, none⟩ (.slice Ab nb cb)) (w.heap.size + 1) 74 #[.int .i64 0, .int .i64 0, .slice none 0 0] ∧ Fr (fun _ => False) w ((w1.setCell ⟨CB, i * 2, none⟩ (.bool true)).setCell ⟨CB, i * 2 + 1, none⟩ (.slice Ab nb cb))) := Lib.hid ⟨(HB.out.b1.keep HFw.out (fun q => q)).keep fst (by have := HB.out.z0; omega), (HB.out.b2.keep HFw.out (fun q => q)).keep fst (by have := HB.out.z0; omega), (HB.out.f0.trans HFw.out (fun _ _ q => q)).trans fst (fun q hq e => by have := HB.out.z0; omega)⟩
    have x0 : ∃ u, w1.cell? ⟨CB, i * 2, none⟩ = some u := ⟨_, (hBl.cell (i * 2)).trans (Array.getElem?_eq_getElem (by have := HLN.out; omega))⟩
    have x1 : ∃ u, w1.cell? ⟨CB, i * 2 + 1, none⟩ = some u := ⟨_, (hBl.cell (i * 2 + 1)).trans (Array.getElem?_eq_getElem (by have := HLN.out; omega))⟩
    obtain ⟨y0, x0⟩ := x0
    obtain ⟨y1, x1⟩ := x1
    have r0 := hBl.frozen (i * 2)
    have r1 := hBl.frozen (i * 2 + 1)
    have hps : putS s i (some b) = s.set i (some b) := by unfold putS; rw [if_pos (by omega)]
    have HPS := Lib.hid hps
    have hi0 : (0 : Int) ≤ (i : Int) := by omega
    have hi1 : (i : Int) < (m : Int) := by omega
    clear hBl hcs hcc hall hall2 hrw hof hsst fst hps himZ hbX HV
    go_upto_region 5 with (fail)
    obtain ⟨wy, hwy⟩ : ∃ X, X = (w1.setCell ⟨CB, i * 2, none⟩ (.bool true)).setCell ⟨CB, i * 2 + 1, none⟩ (.slice Ab nb cb) := ⟨_, rfl⟩
    rw [← hwy] at HRB HY ⊢
    clear hwy x0 x1 r0 r1
    obtain ⟨hb1, hb2, hfy⟩ := HY.out
    have c0 : wy.cell? ⟨w.heap.size, 0, none⟩ = some (.int .i64 kd) := (hb1.cell 0).trans rfl
    have c1 : wy.cell? ⟨w.heap.size, 1, none⟩ = some (.int .i64 nx) := (hb1.cell 1).trans rfl
    have c2 : wy.cell? ⟨w.heap.size, 2, none⟩ = some (.slice A m c) := (hb1.cell 2).trans rfl
    have d0 : wy.cell? ⟨w.heap.size + 1, 0, none⟩ = some (.int .i64 0) := (hb2.cell 0).trans rfl
    have d1 : wy.cell? ⟨w.heap.size + 1, 1, none⟩ = some (.int .i64 0) := (hb2.cell 1).trans rfl
    have d2 : wy.cell? ⟨w.heap.size + 1, 2, none⟩ = some (.slice none 0 0) := (hb2.cell 2).trans rfl
    have q2 := hb1.frozen 2
    have p0 := hb2.frozen 0
    have p1 := hb2.frozen 1
    have p2 := hb2.frozen 2
    have HFy := Lib.hid hfy
    have hz := (((hb2.keep ((Fr.refl (fun b => b = w.heap.size) wy).setCell (p := ⟨w.heap.size, 2, none⟩) (.inl rfl) (.slice (some ⟨CB, 0, none⟩) m k1)) (by omega)).set_ 0 (.int .i64 kd)).set_ 1 (.int .i64 nx)).set_ 2 (.slice (some ⟨CB, 0, none⟩) m k1)
    have hfz : Fr (fun b => b = w.heap.size ∨ b = w.heap.size + 1) wy ((((wy.setCell ⟨w.heap.size, 2, none⟩ (.slice (some ⟨CB, 0, none⟩) m k1)).setCell ⟨w.heap.size + 1, 0, none⟩ (.int .i64 kd)).setCell ⟨w.heap.size + 1, 1, none⟩ (.int .i64 nx)).setCell ⟨w.heap.size + 1, 2, none⟩ (.slice (some ⟨CB, 0, none⟩) m k1)) := ((((Fr.refl _ wy).setCell (p := ⟨w.heap.size, 2, none⟩) (.inl (.inl rfl)) _).setCell (p := ⟨w.heap.size + 1, 0, none⟩) (.inl (.inr rfl)) _).setCell (p := ⟨w.heap.size + 1, 1, none⟩) (.inl (.inr rfl)) _).setCell (p := ⟨w.heap.size + 1, 2, none⟩) (.inl (.inr rfl)) _
    have HZ := Lib.hid (And.intro hz hfz)
    clear hb1 hb2 hfy HY hz hfz
    go_wp2_with fail
    refine bodyPost_ret (results_cell_row rfl _ _ (w.heap.size + 1) 74 #[.int .i64 kd, .int .i64 nx, .slice (some ⟨CB, 0, none⟩) m k1] (0, 0) _ rfl HZ.out.1 Try.underlying74 rfl infoRef) rfl ⟨_, _, _, rfl, by rw [HPS.out, List.length_set]; exact HLN.out.symm, by have := HLN.out; omega, by rw [HPS.out]; exact HRB.out.onB HZ.out.2 (fun u hu ad n c e hn q => by have := hu.2 ad n c e hn; omega) (fun CB2 e2 hb => by injection e2 with e2; injection e2 with e2; have := HB.out.z0; omega) (fun u hu => hu.1), (fun CB2 e2 => by injection e2 with e2; injection e2 with e2; have := HB.out.z0; omega), HFy.out.trans HZ.out.2 (fun q hq e => by omega)⟩
  · obtain rfl : m = i := by omega
    have himZ : ((m : Int) == (m : Int)) = true := by simp
    have HB1 : Hid (Fr (fun _ => False) w1 (w1.alloc (.cells #[.bool false, .slice none 0 0] 99)) ∧ Blk (w1.alloc (.cells #[.bool false, .slice none 0 0] 99)) w1.heap.size 99 #[.bool false, .slice none 0 0]) := Lib.hid ⟨(Fr.refl _ _).alloc _, Blk.new _ _ _⟩
    go_upto_region 4 with (first
      | (refine wpList_append_slot rfl (.tmp 15) (.tmp 17) rfl (HV.out.new HB1.out.1) (by have := HFw.out.size; have := HB1.out.1.size; omega) HB1.out.2 (p := none) ⟨rfl, rfl⟩ (fun ad n c e => by cases e) HKn.out (by have := HM.out; omega) rfl rfl ?_; intro v w2 hv2 f2 hvb; have HV2 := Lib.hid hv2; have HF2 := Lib.hid f2; clear hv2 f2 hvb))
    have hvbase : ∀ q, (Value.slice A1 m k1).ownBlock = some q → X.heap.size ≤ q := fun q hq => by
      obtain ⟨us, h1, -⟩ := HV.out
      rcases h1.2 with ⟨e, _⟩ | ⟨g, cap, cur, e, hbase, _⟩
      · rw [e] at hq; cases hq
      · rw [e] at hq; simp only [Value.ownBlock, Option.some.injEq] at hq; omega
    have HFw2 := Lib.hid ((HFw.out.trans HB1.out.1 (fun _ _ q => q)).trans HF2.out (fun q hq e => by have := hvbase q e; omega))
    have hln : (s ++ [none]).length = m + 1 := by rw [List.length_append, List.length_singleton, ← HM.out]
    have HLN := Lib.hid hln
    obtain ⟨CB, k2, cur, hv, hbase, hcc, -, hBl, hcs, hall⟩ := HV2.out.open_ (by omega)
    rw [hln] at hv
    subst hv
    have hbX : w.heap.size + 2 ≤ CB := by have := HB.out.z0; omega
    have hrw := HRb.out.new (HR.out.2.trans HFw2.out (fun _ _ q => q))
    have hof : Off (.slice (some ⟨CB, 0, none⟩) (s ++ [none]).length k2) (.slice Ab nb cb) := fun ad n c e hn hb => by
      have := HUnd.out.2 ad n c e hn
      simp only [Value.ownBlock, Option.some.injEq] at hb
      omega
    rw [← hln] at HV2
    clear hvbase HFw HV HF2
    have HFw := HFw2
    clear HFw2
    have hk2 := hcc
    have hsst := slot_store (v := .slice (some ⟨CB, 0, none⟩) (s ++ [none]).length k2) (K := fun u => K u ∧ Und w.heap.size u) rfl hBl hcs hcc hall (o := (some b)) hrw hof HUnd.out (i := m) (by rw [HLN.out]; omega)
    have HRB := Lib.hid hsst
    have fst : Fr (fun b => b = CB) w2 ((w2.setCell ⟨CB, m * 2, none⟩ (.bool true)).setCell ⟨CB, m * 2 + 1, none⟩ (.slice Ab nb cb)) := ((Fr.refl (fun b => b = CB) w2).setCell (p := ⟨CB, m * 2, none⟩) (.inl rfl) _).setCell (p := ⟨CB, m * 2 + 1, none⟩) (.inl rfl) _
    have HY : Hid (Blk ((w2.setCell ⟨CB, m * 2, none⟩ (.bool true)).setCell ⟨CB, m * 2 + 1, none⟩ (.slice Ab nb cb)) w.heap.size 74 #[.int .i64 kd, .int .i64 nx, .slice A m c] ∧ Blk ((w2.setCell ⟨CB, m * 2, none⟩ (.bool true)).setCell ⟨CB, m * 2 + 1, none⟩ (.slice Ab nb cb)) (w.heap.size + 1) 74 #[.int .i64 0, .int .i64 0, .slice none 0 0] ∧ Fr (fun _ => False) w ((w2.setCell ⟨CB, m * 2, none⟩ (.bool true)).setCell ⟨CB, m * 2 + 1, none⟩ (.slice Ab nb cb))) := Lib.hid ⟨(HB.out.b1.keep HFw.out (fun q => q)).keep fst (by have := HB.out.z0; omega), (HB.out.b2.keep HFw.out (fun q => q)).keep fst (by have := HB.out.z0; omega), (HB.out.f0.trans HFw.out (fun _ _ q => q)).trans fst (fun q hq e => by have := HB.out.z0; omega)⟩
    have x0 : ∃ u, w2.cell? ⟨CB, m * 2, none⟩ = some u := ⟨_, (hBl.cell (m * 2)).trans (Array.getElem?_eq_getElem (by have := HLN.out; omega))⟩
    have x1 : ∃ u, w2.cell? ⟨CB, m * 2 + 1, none⟩ = some u := ⟨_, (hBl.cell (m * 2 + 1)).trans (Array.getElem?_eq_getElem (by have := HLN.out; omega))⟩
    obtain ⟨y0, x0⟩ := x0
    obtain ⟨y1, x1⟩ := x1
    have r0 := hBl.frozen (m * 2)
    have r1 := hBl.frozen (m * 2 + 1)
    have hps : putS s m (some b) = (s ++ [none]).set m (some b) := by
      unfold putS
      rw [if_neg (by have := HM.out; omega), List.set_append_right _ _ (by have := HM.out; omega), ← HM.out, Nat.sub_self]
      rfl
    have HPS := Lib.hid hps
    have hi0 : (0 : Int) ≤ (m : Int) := by omega
    have hi1 : (m : Int) < (m : Int) + 1 := by omega
    rw [hln] at hk2
    clear hBl hcs hcc hall hrw hof hsst fst hps himZ hbX HV2 hln
    go_upto_region 5 with (fail)
    obtain ⟨wy, hwy⟩ : ∃ X, X = (w2.setCell ⟨CB, m * 2, none⟩ (.bool true)).setCell ⟨CB, m * 2 + 1, none⟩ (.slice Ab nb cb) := ⟨_, rfl⟩
    rw [← hwy] at HRB HY ⊢
    clear hwy x0 x1 r0 r1
    obtain ⟨hb1, hb2, hfy⟩ := HY.out
    have c0 : wy.cell? ⟨w.heap.size, 0, none⟩ = some (.int .i64 kd) := (hb1.cell 0).trans rfl
    have c1 : wy.cell? ⟨w.heap.size, 1, none⟩ = some (.int .i64 nx) := (hb1.cell 1).trans rfl
    have c2 : wy.cell? ⟨w.heap.size, 2, none⟩ = some (.slice A m c) := (hb1.cell 2).trans rfl
    have d0 : wy.cell? ⟨w.heap.size + 1, 0, none⟩ = some (.int .i64 0) := (hb2.cell 0).trans rfl
    have d1 : wy.cell? ⟨w.heap.size + 1, 1, none⟩ = some (.int .i64 0) := (hb2.cell 1).trans rfl
    have d2 : wy.cell? ⟨w.heap.size + 1, 2, none⟩ = some (.slice none 0 0) := (hb2.cell 2).trans rfl
    have q2 := hb1.frozen 2
    have p0 := hb2.frozen 0
    have p1 := hb2.frozen 1
    have p2 := hb2.frozen 2
    have HFy := Lib.hid hfy
    have hz := (((hb2.keep ((Fr.refl (fun b => b = w.heap.size) wy).setCell (p := ⟨w.heap.size, 2, none⟩) (.inl rfl) (.slice (some ⟨CB, 0, none⟩) (m + 1) k2)) (by omega)).set_ 0 (.int .i64 kd)).set_ 1 (.int .i64 nx)).set_ 2 (.slice (some ⟨CB, 0, none⟩) (m + 1) k2)
    have hfz : Fr (fun b => b = w.heap.size ∨ b = w.heap.size + 1) wy ((((wy.setCell ⟨w.heap.size, 2, none⟩ (.slice (some ⟨CB, 0, none⟩) (m + 1) k2)).setCell ⟨w.heap.size + 1, 0, none⟩ (.int .i64 kd)).setCell ⟨w.heap.size + 1, 1, none⟩ (.int .i64 nx)).setCell ⟨w.heap.size + 1, 2, none⟩ (.slice (some ⟨CB, 0, none⟩) (m + 1) k2)) := ((((Fr.refl _ wy).setCell (p := ⟨w.heap.size, 2, none⟩) (.inl (.inl rfl)) _).setCell (p := ⟨w.heap.size + 1, 0, none⟩) (.inl (.inr rfl)) _).setCell (p := ⟨w.heap.size + 1, 1, none⟩) (.inl (.inr rfl)) _).setCell (p := ⟨w.heap.size + 1, 2, none⟩) (.inl (.inr rfl)) _
    have HZ := Lib.hid (And.intro hz hfz)
    clear hb1 hb2 hfy HY hz hfz
    go_wp2_with fail
    refine bodyPost_ret (results_cell_row rfl _ _ (w.heap.size + 1) 74 #[.int .i64 kd, .int .i64 nx, .slice (some ⟨CB, 0, none⟩) (m + 1) k2] (0, 0) _ rfl HZ.out.1 Try.underlying74 rfl infoRef) rfl ⟨_, _, _, rfl, by rw [HPS.out, List.length_set]; exact HLN.out.symm, hk2, by rw [HPS.out]; exact HRB.out.onB HZ.out.2 (fun u hu ad n c e hn q => by have := hu.2 ad n c e hn; omega) (fun CB2 e2 hb => by injection e2 with e2; injection e2 with e2; have := HB.out.z0; omega) (fun u hu => hu.1), (fun CB2 e2 => by injection e2 with e2; injection e2 with e2; have := HB.out.z0; omega), HFy.out.trans HZ.out.2 (fun q hq e => by omega)⟩
end
end Go.Proofs.Ytijdbngjnhhheaa
