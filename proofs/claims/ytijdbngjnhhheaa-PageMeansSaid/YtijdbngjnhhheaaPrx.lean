/- The document's page: Without. -/
import Derived.Test.YtijdbngjnhhheaaPrw
namespace Go.Proofs.Ytijdbngjnhhheaa
open Go.RowKit

section
variable {K : Value → Prop} {w : World} {A : Option Addr} {s : List Rec} {c : Nat}
set_option maxRecDepth 100000 in
theorem Without_any {kd nx : Int} (hR : RecsB K w A s) (hKn : K (.slice none 0 0)) (hc : s.length ≤ c) (h9 : s.length ≤ 200) {i : Nat} (hi : i < s.length) :
    Calls Try.prog 47 #[.agg #[.int .i64 kd, .int .i64 nx, .slice A s.length c], .int .i64 i] w fun e w' =>
      ∃ A' n' c', e = .returned (.agg #[.int .i64 kd, .int .i64 nx, .slice A' n' c']) ∧ n' = (trim (putS s i none)).length ∧ n' ≤ c' ∧ RecsB K w' A' (trim (putS s i none)) ∧ (∀ CB : Nat, A' = some ⟨CB, 0, none⟩ → w.heap.size ≤ CB) ∧ Fr (fun _ => False) w w' := by
  obtain ⟨m, hm⟩ : ∃ m, m = s.length := ⟨_, rfl⟩
  obtain ⟨X, hX, b1, b2, f0, z0⟩ := two_refs w (.int .i64 kd) (.int .i64 nx) (.slice A m c)
  have c2 := b1.cell 2
  simp at c2
  have HR := Lib.hid (And.intro hR f0)
  have HB : Hid (TwoB X w (.int .i64 kd) (.int .i64 nx) (.slice A m c)) := Lib.hid ⟨b1, b2, f0, z0⟩
  have HM := Lib.hid hm
  have HKn : Hid (K (.slice none 0 0) ∧ Und w.heap.size (.slice none 0 0)) := Lib.hid ⟨hKn, fun ad n c e => by cases e⟩
  have HXX := Lib.hid hX
  rw [← hm] at hc h9 hi ⊢
  clear hR hKn hm b1 b2 f0 z0 hX
  go_enter Try.func47, Try.ntmps47
  go_upto_region 1 with (fail)
  (simp only [← HXX.out])
  go_upto_region 2 with (refine wpList_copy_slots rfl (.tmp 7) rfl HR.out.1 HR.out.2 HM.out rfl (by omega) ?_; intro v w1 hv1 f1; have HV := Lib.hid hv1; have HFw := Lib.hid f1; clear hv1 f1)
  have hln : s.length = m := HM.out.symm
  have HLN := Lib.hid hln
  obtain ⟨CB, k1, cur, hv, hbase, hk1, -, hBl, hcs, hall⟩ := HV.out.open_ (by omega)
  have hbX : w.heap.size + 2 ≤ CB := by have := HB.out.z0; omega
  have hcc := hk1
  rw [hln] at hv hk1
  subst hv
  rw [← hln] at HV
  have hsst := slot_store (v := .slice (some ⟨CB, 0, none⟩) s.length k1) (K := fun u => K u ∧ Und w.heap.size u) rfl hBl hcs hcc hall (o := none) (show RecV w1 none (.bool false) (.slice none 0 0) from ⟨rfl, rfl⟩) (fun ad n c e => by cases e) HKn.out (i := i) (by rw [HLN.out]; omega)
  have HRB := Lib.hid hsst
  have fst : Fr (fun b => b = CB) w1 ((w1.setCell ⟨CB, i * 2, none⟩ (.bool false)).setCell ⟨CB, i * 2 + 1, none⟩ (.slice none 0 0)) := ((Fr.refl (fun b => b = CB) w1).setCell (p := ⟨CB, i * 2, none⟩) (.inl rfl) _).setCell (p := ⟨CB, i * 2 + 1, none⟩) (.inl rfl) _
  have HY : Hid (Blk ((w1.setCell ⟨CB, i * 2, none⟩ (.bool false)).setCell ⟨CB, i * 2 + 1, none⟩ (.slice none 0 0)) w.heap.size 74 #[.int .i64 kd, .int .i64 nx, .slice A m c] ∧ Blk ((w1.setCell ⟨CB, i * 2, none⟩ (.bool false)).setCell ⟨CB, i * 2 + 1, none⟩ (.slice none 0 0)) (w.heap.size + 1) 74 #[.int .i64 0, .int .i64 0, .slice none 0 0] ∧ Fr (fun _ => False) w ((w1.setCell ⟨CB, i * 2, none⟩ (.bool false)).setCell ⟨CB, i * 2 + 1, none⟩ (.slice none 0 0))) := Lib.hid ⟨(HB.out.b1.keep HFw.out (fun q => q)).keep fst (by have := HB.out.z0; omega), (HB.out.b2.keep HFw.out (fun q => q)).keep fst (by have := HB.out.z0; omega), (HB.out.f0.trans HFw.out (fun _ _ q => q)).trans fst (fun q hq e => by have := HB.out.z0; omega)⟩
  have x0 : ∃ u, w1.cell? ⟨CB, i * 2, none⟩ = some u := ⟨_, (hBl.cell (i * 2)).trans (Array.getElem?_eq_getElem (by have := HLN.out; omega))⟩
  have x1 : ∃ u, w1.cell? ⟨CB, i * 2 + 1, none⟩ = some u := ⟨_, (hBl.cell (i * 2 + 1)).trans (Array.getElem?_eq_getElem (by have := HLN.out; omega))⟩
  obtain ⟨y0, x0⟩ := x0
  obtain ⟨y1, x1⟩ := x1
  have r0 := hBl.frozen (i * 2)
  have r1 := hBl.frozen (i * 2 + 1)
  have hps : putS s i none = s.set i none := by unfold putS; rw [if_pos (by omega)]
  have HPS := Lib.hid hps
  have hi0 : (0 : Int) ≤ (i : Int) := by omega
  have hi1 : (i : Int) < (m : Int) := by omega
  clear hBl hcs hcc hall hsst fst hps hbX HV c2
  go_upto_region 3 with (fail)
  obtain ⟨wy, hwy⟩ : ∃ X, X = (w1.setCell ⟨CB, i * 2, none⟩ (.bool false)).setCell ⟨CB, i * 2 + 1, none⟩ (.slice none 0 0) := ⟨_, rfl⟩
  rw [← hwy] at HRB HY ⊢
  clear hwy x0 x1 r0 r1
  obtain ⟨T, hT⟩ : ∃ T, T = s.set i none := ⟨_, rfl⟩
  obtain ⟨Kt, hK⟩ : ∃ K, K = trimK T T.length := ⟨_, rfl⟩
  rw [← hT] at HRB HPS
  have hTl : T.length = m := by rw [hT, List.length_set]; exact HLN.out
  have HT := Lib.hid (And.intro hTl hK)
  have HRY : Hid (RecsAt wy (some ⟨CB, 0, none⟩) T) := Lib.hid HRB.out.at_
  clear hT hK
  go_loopw [5] (fun v wr => ∃ k : Nat, v = .slice (some ⟨CB, 0, none⟩) k k1 ∧ k ≤ m ∧ Hid (trimK T k = Kt) ∧ wy = wr) (fun v _ => match v with | .slice _ k _ => k | _ => 0)
  case atStart => exact ⟨m, rfl, Nat.le_refl _, Lib.hid (by rw [HT.out.2, HT.out.1]), rfl⟩
  case round =>
    obtain ⟨k, rfl, hk, HQ, rfl⟩ := hrel
    by_cases hmore : ∃ j, k = j + 1 ∧ isB T j = false
    · obtain ⟨j, rfl, hb⟩ := hmore
      obtain ⟨o, CB2, u0, A1, q1, ho, hA, z0, -, hu, -⟩ := HRY.out.slot (i := j) (by have := HT.out.1; omega)
      injection hA with hA
      injection hA with hA
      subst hA
      rw [hb] at hu
      subst hu
      have HT2 : Hid (trimK T j = Kt) := Lib.hid (by
        have := HQ.out
        unfold trimK at this
        rw [hb] at this
        simpa using this)
      have hc1 : (((j : Int) + 1) - 1) = (j : Int) := by omega
      have hi0 : (0 : Int) ≤ (j : Int) := by omega
      have hjc : (j : Int) ≤ (k1 : Int) := by omega
      have hsl : ∀ W, (Instr.slice 72 (.slice (some ⟨CB, 0, none⟩) (j + 1) k1) none (some (.int .i64 (j : Int))) none).run Try.prog W = .ok (.slice (some ⟨CB, 0, none⟩) j k1) W := fun W => by
        rw [run_slice_h W 72 _ _ _ Try.underlying72 .i64 j (by omega) (by omega)]
        have hz : (sizeOf (Try.prog.elem 72)).run Try.prog W = .ok 2 W := by go_simp
        rw [hz]
        simp [Result.andThen, sliced, addr_add]
      clear ho hb HQ
      go_wp2_with fail
      refine ⟨⟨j, rfl, by omega, HT2, by first | rfl | trivial⟩, by simp⟩
    · have hkK : k = Kt := by
        have := HQ.out
        cases k with
        | zero => simpa [trimK] using this
        | succ j =>
          unfold trimK at this
          have hb : isB T j = true := by
            cases hq : isB T j with
            | true => rfl
            | false => exact absurd ⟨j, rfl, hq⟩ hmore
          rw [hb] at this
          simpa using this
      have hlast : 0 < k → isB T (k - 1) = true := fun h0 => by
        cases hq : isB T (k - 1) with
        | true => rfl
        | false => exact absurd ⟨k - 1, by omega, hq⟩ hmore
      have HKK : Hid (k = (trim (putS s i none)).length) := Lib.hid (by rw [HPS.out, trim_len, hkK, HT.out.2])
      have HRT : Hid (∀ (W : World), Fr (fun b => b = w.heap.size ∨ b = w.heap.size + 1) wy W → RecsB K W (some ⟨CB, 0, none⟩) (trim (putS s i none))) := Lib.hid fun W f => by
        rw [HPS.out]
        exact (HRB.out.take _).onB f (fun u hu ad n c e hn q => by have := hu.2 ad n c e hn; omega) (fun CB2 e2 hb => by injection e2 with e2; injection e2 with e2; have := HB.out.z0; omega) (fun u hu => hu.1)
      by_cases h0 : 0 < k
      · obtain ⟨o, CB2, u0, A1, q1, ho, hA, z0, -, hu, -⟩ := HRY.out.slot (i := k - 1) (by have := HT.out.1; omega)
        injection hA with hA
        injection hA with hA
        subst hA
        rw [hlast h0] at hu
        subst hu
        obtain ⟨j, rfl⟩ : ∃ j, k = j + 1 := ⟨k - 1, by omega⟩
        rw [Nat.add_sub_cancel] at z0
        have hc1 : (((j : Int) + 1) - 1) = (j : Int) := by omega
        have hi2 : (0 : Int) ≤ (j : Int) := by omega
        clear hmore hkK hlast HQ ho h0
        obtain ⟨hb1, hb2, hfy⟩ := HY.out
        have c0 : wy.cell? ⟨w.heap.size, 0, none⟩ = some (.int .i64 kd) := (hb1.cell 0).trans rfl
        have c1 : wy.cell? ⟨w.heap.size, 1, none⟩ = some (.int .i64 nx) := (hb1.cell 1).trans rfl
        have c2 : wy.cell? ⟨w.heap.size, 2, none⟩ = some (.slice A m c) := (hb1.cell 2).trans rfl
        have d0 : wy.cell? ⟨w.heap.size + 1, 0, none⟩ = some (.int .i64 0) := (hb2.cell 0).trans rfl
        have d1 : wy.cell? ⟨w.heap.size + 1, 1, none⟩ = some (.int .i64 0) := (hb2.cell 1).trans rfl
        have d2 : wy.cell? ⟨w.heap.size + 1, 2, none⟩ = some (.slice none 0 0) := (hb2.cell 2).trans rfl
        have q2 := hb1.frozen 2
        have p0 := hb2.frozen 0
        have p1 := hb2.frozen 1
        have p2 := hb2.frozen 2
        have HFy := Lib.hid hfy
        have hz := (((hb2.keep ((Fr.refl (fun b => b = w.heap.size) wy).setCell (p := ⟨w.heap.size, 2, none⟩) (.inl rfl) (.slice (some ⟨CB, 0, none⟩) (j + 1) k1)) (by omega)).set_ 0 (.int .i64 kd)).set_ 1 (.int .i64 nx)).set_ 2 (.slice (some ⟨CB, 0, none⟩) (j + 1) k1)
        have hfz : Fr (fun b => b = w.heap.size ∨ b = w.heap.size + 1) wy ((((wy.setCell ⟨w.heap.size, 2, none⟩ (.slice (some ⟨CB, 0, none⟩) (j + 1) k1)).setCell ⟨w.heap.size + 1, 0, none⟩ (.int .i64 kd)).setCell ⟨w.heap.size + 1, 1, none⟩ (.int .i64 nx)).setCell ⟨w.heap.size + 1, 2, none⟩ (.slice (some ⟨CB, 0, none⟩) (j + 1) k1)) := ((((Fr.refl _ wy).setCell (p := ⟨w.heap.size, 2, none⟩) (.inl (.inl rfl)) _).setCell (p := ⟨w.heap.size + 1, 0, none⟩) (.inl (.inr rfl)) _).setCell (p := ⟨w.heap.size + 1, 1, none⟩) (.inl (.inr rfl)) _).setCell (p := ⟨w.heap.size + 1, 2, none⟩) (.inl (.inr rfl)) _
        have HZ := Lib.hid (And.intro hz hfz)
        clear hb1 hb2 hfy HY hz hfz
        go_wp2_with fail
        refine bodyPost_ret (results_cell_row rfl _ _ (w.heap.size + 1) 74 #[.int .i64 kd, .int .i64 nx, .slice (some ⟨CB, 0, none⟩) (j + 1) k1] (0, 0) _ rfl HZ.out.1 Try.underlying74 rfl infoRef) rfl ⟨_, _, _, rfl, HKK.out, by omega, HRT.out _ HZ.out.2, (fun CB2 e2 => by injection e2 with e2; injection e2 with e2; have := HB.out.z0; omega), HFy.out.trans HZ.out.2 (fun q hq e => by omega)⟩
      · obtain rfl : k = 0 := by omega
        clear hmore hkK hlast HQ h0
        obtain ⟨hb1, hb2, hfy⟩ := HY.out
        have c0 : wy.cell? ⟨w.heap.size, 0, none⟩ = some (.int .i64 kd) := (hb1.cell 0).trans rfl
        have c1 : wy.cell? ⟨w.heap.size, 1, none⟩ = some (.int .i64 nx) := (hb1.cell 1).trans rfl
        have c2 : wy.cell? ⟨w.heap.size, 2, none⟩ = some (.slice A m c) := (hb1.cell 2).trans rfl
        have d0 : wy.cell? ⟨w.heap.size + 1, 0, none⟩ = some (.int .i64 0) := (hb2.cell 0).trans rfl
        have d1 : wy.cell? ⟨w.heap.size + 1, 1, none⟩ = some (.int .i64 0) := (hb2.cell 1).trans rfl
        have d2 : wy.cell? ⟨w.heap.size + 1, 2, none⟩ = some (.slice none 0 0) := (hb2.cell 2).trans rfl
        have q2 := hb1.frozen 2
        have p0 := hb2.frozen 0
        have p1 := hb2.frozen 1
        have p2 := hb2.frozen 2
        have HFy := Lib.hid hfy
        have hz := (((hb2.keep ((Fr.refl (fun b => b = w.heap.size) wy).setCell (p := ⟨w.heap.size, 2, none⟩) (.inl rfl) (.slice (some ⟨CB, 0, none⟩) 0 k1)) (by omega)).set_ 0 (.int .i64 kd)).set_ 1 (.int .i64 nx)).set_ 2 (.slice (some ⟨CB, 0, none⟩) 0 k1)
        have hfz : Fr (fun b => b = w.heap.size ∨ b = w.heap.size + 1) wy ((((wy.setCell ⟨w.heap.size, 2, none⟩ (.slice (some ⟨CB, 0, none⟩) 0 k1)).setCell ⟨w.heap.size + 1, 0, none⟩ (.int .i64 kd)).setCell ⟨w.heap.size + 1, 1, none⟩ (.int .i64 nx)).setCell ⟨w.heap.size + 1, 2, none⟩ (.slice (some ⟨CB, 0, none⟩) 0 k1)) := ((((Fr.refl _ wy).setCell (p := ⟨w.heap.size, 2, none⟩) (.inl (.inl rfl)) _).setCell (p := ⟨w.heap.size + 1, 0, none⟩) (.inl (.inr rfl)) _).setCell (p := ⟨w.heap.size + 1, 1, none⟩) (.inl (.inr rfl)) _).setCell (p := ⟨w.heap.size + 1, 2, none⟩) (.inl (.inr rfl)) _
        have HZ := Lib.hid (And.intro hz hfz)
        clear hb1 hb2 hfy HY hz hfz
        go_wp2_with fail
        refine bodyPost_ret (results_cell_row rfl _ _ (w.heap.size + 1) 74 #[.int .i64 kd, .int .i64 nx, .slice (some ⟨CB, 0, none⟩) 0 k1] (0, 0) _ rfl HZ.out.1 Try.underlying74 rfl infoRef) rfl ⟨_, _, _, rfl, HKK.out, by omega, HRT.out _ HZ.out.2, (fun CB2 e2 => by injection e2 with e2; injection e2 with e2; have := HB.out.z0; omega), HFy.out.trans HZ.out.2 (fun q hq e => by omega)⟩
end
end Go.Proofs.Ytijdbngjnhhheaa
