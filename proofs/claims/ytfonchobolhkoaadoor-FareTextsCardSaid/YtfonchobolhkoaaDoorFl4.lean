/- The laws FareSums, FareMany, of what fare's calls answer. -/
import Derived.Test.YtfonchobolhkoaaDoorFl1
namespace Go.Proofs.YtfonchobolhkoaaDoor
open Go.RowKit

section
variable {P : Program} {ops : Array Oper} {Q : Exit → Act → World → Prop} {md : Region.Mode} {S : World → Prop}

/-- The operation i answers v, in whatever memory of S, and leaves memory of S. -/
def Tame (P : Program) (ops : Array Oper) (Q : Exit → Act → World → Prop) (S : World → Prop) (i : Nat) (d : Tmp) (v : Value) (T : Array Value) (ds : List Deferred) : Prop :=
  ∀ w, S w → ∀ K : Act → World → Prop, (∀ w', S w' → K { tmps := T.setIfInBounds d v, defers := ds } w') → wpOp P ops Q i K { tmps := T, defers := ds } w
theorem tame_call {i : Nat} {o : Oper} {T : Array Value} {ds : List Deferred} {f : FuncId} {args : Array Value} {v : Value} (d : Tmp) (ho : ops[i]? = some o) (hd : o.dst = some d) (hw : Region.wanted o (yielded ops T) = true)
    (hr : ∀ w, S w → (execOp (Act.eval { tmps := T, defers := ds }) o).run P w = .ok (.enter f args) w) (h : ∀ w, S w → Calls P f args w fun e w' => e = .returned v ∧ S w') : Tame P ops Q S i d v T ds := fun w hS K hK =>
  wpOp_call d ho hd hw (hr w hS) ((h w hS).mono fun e w' he => ⟨v, he.1, hK w' he.2⟩)
theorem anyH_one (i : Nat) (d : Tmp) (v : Value) {fuel : Nat} {listed : Array Bool} {T : Array Value} {ds : List Deferred} {w : World} (hr : Region.ready md ops listed = [i])
    (ht : Tame P ops Q S i d v T ds) (hS : S w) (h : ∀ w', S w' → wpAnyH P md ops Q S fuel (listed.setIfInBounds i true) { tmps := T.setIfInBounds d v, defers := ds } w') : wpAnyH P md ops Q S (fuel + 1) listed { tmps := T, defers := ds } w := by
  refine wpAnyH_all hr (by simp) fun j hj => ?_
  obtain rfl := List.mem_singleton.1 hj
  exact ht w hS _ fun w' hS' => ⟨hS', h w' hS'⟩
end

theorem sumI_bd2 {l : List Int} (h : l.all mayF = true) : -(l.length * 1000000000000 : Int) ≤ sumI l ∧ sumI l ≤ l.length * 1000000000000 := by
  induction l with
  | nil => simp [sumI]
  | cons a l ih =>
    simp only [List.all_cons, Bool.and_eq_true] at h
    have h1 := ih h.2
    have h2 : -1000000000000 ≤ a ∧ a ≤ 1000000000000 := of_decide_eq_true h.1
    simp only [sumI, List.foldr_cons, List.length_cons] at h1 ⊢
    omega
set_option maxRecDepth 100000 in
set_option maxHeartbeats 4000000 in
theorem fsums (P : FareP) {w : World} {v : Value} {zs : List Int} (hv : IntsAt w v zs) (hvk : Vok w) : Calls Tryd.prog 6 #[v] w (Tru w) := by
  have HK := Lib.hid (fun W (fk : Fr (fun _ => False) w W) => fknown P W (hvk.keep fk))
  clear hvk
  have HV := Lib.hid hv
  obtain ⟨A, c1, rfl, hml, hA⟩ := hv
  obtain ⟨m, hm⟩ : ∃ m, m = zs.length := ⟨_, rfl⟩
  rw [← hm] at HV ⊢
  by_cases h1 : 1100 < m
  · have h1i : (1100 : Int) < (m : Int) := by omega
    clear hm hml hA h1
    go_enter Tryd.func6, Tryd.ntmps6
    go_wp2_with fail
    refine (HK.out _ (Fr.refl _ _)).mono ?_
    rintro e w1 ⟨rfl, f1⟩
    have HF := Lib.hid f1
    clear f1
    go_wp2_with fail
    go_ret
    exact ⟨rfl, HF.out⟩
  · have h1i : ¬ (1100 : Int) < (m : Int) := by omega
    have hm9 : m ≤ 1100 := by omega
    obtain ⟨E, hE⟩ : ∃ E, E = sumE zs := ⟨_, rfl⟩
    obtain ⟨S, hS⟩ : ∃ S, S = sumR zs := ⟨_, rfl⟩
    have HSM := Lib.hid (P.sum w _ zs HV.out (by omega))
    rw [← hE, ← hS] at HSM
    have hSE : S = if E = 0 then sumI zs else 0 := by rw [hS, hE]; rfl
    unfold sumE at hE
    rw [← hm] at hE
    have HE := Lib.hid (And.intro hE (And.intro hSE hm))
    have HPM := Lib.hid (fun z W => P.may z W)
    have HA := Lib.hid hA
    clear hm hml hA h1 hE hSE hS
    go_enter Tryd.func6, Tryd.ntmps6
    go_wp2_with fail
    refine HSM.out.mono ?_
    rintro e w1 ⟨rfl, f1⟩
    have HF1 := Lib.hid f1
    clear f1 HSM
    go_wp2_with fail
    go_loopw [5, 6, 7] (fun s b x wr => ∃ (k : Nat) (t : Int) (mb : Bool), x = .int .i64 k ∧ s = .int .i64 t ∧ b = .bool mb ∧ k ≤ m ∧ -(k * 1000000000000 : Int) ≤ t ∧ t ≤ k * 1000000000000 ∧ Hid (mb = (zs.take k).all mayF ∧ (mb = true → t = sumI (zs.take k))) ∧ Hid (Fr (fun _ => False) w wr)) (fun _ _ x _ => m - (intOf x).toNat)
    case atStart => exact ⟨0, 0, true, rfl, rfl, rfl, Nat.zero_le _, by omega, by omega, Lib.hid ⟨rfl, fun _ => rfl⟩, HF1⟩
    case round =>
      obtain ⟨k, t, mb, rfl, rfl, rfl, hk, ht0, ht1, HT, HF⟩ := hrel
      by_cases hlt : k < m
      · obtain ⟨z1, hz1⟩ : ∃ z1, zs[k]? = some z1 := ⟨_, List.getElem?_eq_getElem (by have := HE.out.2.2; omega)⟩
        obtain ⟨b1, o1, rfl, hcA⟩ := HA.out (by have := HE.out.2.2; omega)
        have hcc := hcA k z1 hz1
        have hcell : ∀ W, Fr (fun _ => False) wr W → W.cell? ⟨b1, o1 + k, none⟩ = some (.int .i64 z1) := fun W g => ((HF.out.trans g (fun _ _ q => q)).cell (World.block_lt_of_cell? w _ hcc) (fun q => q)).trans hcc
        have hd1 := hcell wr (Fr.refl _ _)
        have htk : zs.take (k + 1) = zs.take k ++ [z1] := by rw [List.take_add_one, hz1]; rfl
        have hk0 : (0 : Int) ≤ (k : Int) := by omega
        have hkm : (k : Int) < (m : Int) := by omega
        have HKI := Lib.hid (And.intro hk0 (And.intro hkm hlt))
        have HLT := Lib.hid hlt
        have ht8 : -1100000000000000 ≤ t := by omega
        have ht9 : t ≤ 1100000000000000 := by omega
        obtain ⟨bz, hbz⟩ : ∃ bz, bz = mayF z1 := ⟨_, rfl⟩
        have HPM := Lib.hid (fun W => HPM.out z1 W)
        have HRM := Lib.hid (fun W => rmayf_any z1 W)
        rw [← hbz] at HPM HRM
        have hnx : (zs.take (k + 1)).all mayF = ((zs.take k).all mayF && bz) := by rw [htk, List.all_append, hbz]; simp
        have hsn : sumI (zs.take (k + 1)) = sumI (zs.take k) + z1 := by rw [htk, sumI_snoc]
        have hbd : bz = true → -1000000000000 ≤ z1 ∧ z1 ≤ 1000000000000 := fun q => by rw [hbz] at q; exact of_decide_eq_true q
        have HN := Lib.hid (And.intro hnx hsn)
        clear hz1 hcA hcc htk hnx hsn hbz hlt
        cases mb with
        | true =>
          cases bz with
          | true =>
            obtain ⟨hz8, hz9⟩ := hbd rfl
            clear hbd
            go_wp2_with fail
            refine (HRM.out _).mono ?_
            rintro e w2 ⟨rfl, rfl⟩
            go_upto_region 11 with fail
            refine wp_region_held_drew (S := fun w' => Fr (fun _ => False) wr w') (by kernel_rfl) ((Fr.refl _ wr).drew) (fun hS0 => ?_)
            refine anyH_take 0 38 (.slice (some ⟨b1, o1, none⟩) m c1) rfl rfl (by kernel_rfl) (by kernel_rfl) (by kernel_rfl) (fun _ _ _ h => h) (.inl ⟨by rfl, fun w'' hS => by go_simp⟩) hS0 ?_
            (simp only [List.setIfInBounds_toArray, List.set_cons_zero, List.set_cons_succ])
            refine anyH_take 1 39 (.int .i64 (k : Nat)) rfl rfl (by kernel_rfl) (by kernel_rfl) (by kernel_rfl) (fun _ _ _ h => h) (.inl ⟨by rfl, fun w'' hS => by go_simp⟩) hS0 ?_
            (simp only [List.setIfInBounds_toArray, List.set_cons_zero, List.set_cons_succ])
            refine anyH_take 2 40 (.pointer (some ⟨b1, o1 + k, none⟩)) rfl rfl (by kernel_rfl) (by kernel_rfl) (by kernel_rfl) (fun _ _ _ h => h) (.inl ⟨by rfl, fun w'' hS => by have q0 := HKI.out.1; have q1 := HKI.out.2.1; have q2 := HKI.out.2.2; go_simp⟩) hS0 ?_
            (simp only [List.setIfInBounds_toArray, List.set_cons_zero, List.set_cons_succ])
            refine anyH_take 3 41 (.int .i64 z1) rfl rfl (by kernel_rfl) (by kernel_rfl) (by kernel_rfl) (fun _ _ _ h => h) (.inl ⟨by rfl, fun w'' hS => by have q0 := hcell _ hS; go_simp⟩) hS0 ?_
            (simp only [List.setIfInBounds_toArray, List.set_cons_zero, List.set_cons_succ])
            refine anyH_take 5 43 (.slice (some ⟨b1, o1, none⟩) m c1) rfl rfl (by kernel_rfl) (by kernel_rfl) (by kernel_rfl) (fun _ _ _ h => h) (.inl ⟨by rfl, fun w'' hS => by go_simp⟩) hS0 ?_
            (simp only [List.setIfInBounds_toArray, List.set_cons_zero, List.set_cons_succ])
            refine anyH_take 6 44 (.int .i64 (k : Nat)) rfl rfl (by kernel_rfl) (by kernel_rfl) (by kernel_rfl) (fun _ _ _ h => h) (.inl ⟨by rfl, fun w'' hS => by go_simp⟩) hS0 ?_
            (simp only [List.setIfInBounds_toArray, List.set_cons_zero, List.set_cons_succ])
            refine anyH_take 7 45 (.pointer (some ⟨b1, o1 + k, none⟩)) rfl rfl (by kernel_rfl) (by kernel_rfl) (by kernel_rfl) (fun _ _ _ h => h) (.inl ⟨by rfl, fun w'' hS => by have q0 := HKI.out.1; have q1 := HKI.out.2.1; have q2 := HKI.out.2.2; go_simp⟩) hS0 ?_
            (simp only [List.setIfInBounds_toArray, List.set_cons_zero, List.set_cons_succ])
            refine anyH_take 8 46 (.int .i64 z1) rfl rfl (by kernel_rfl) (by kernel_rfl) (by kernel_rfl) (fun _ _ _ h => h) (.inl ⟨by rfl, fun w'' hS => by have q0 := hcell _ hS; go_simp⟩) hS0 ?_
            (simp only [List.setIfInBounds_toArray, List.set_cons_zero, List.set_cons_succ])
            refine anyH_one 4 42 (.bool true) (by kernel_rfl) (tame_call 42 rfl rfl (by rfl) (fun w'' hS => by go_simp) (fun w'' hS => ((HPM.out _).mono fun e w3 he => ⟨he.1, hS.trans he.2 (fun _ _ q => q)⟩))) hS0 (fun wa hS0 => ?_)
            (simp only [List.setIfInBounds_toArray, List.set_cons_zero, List.set_cons_succ])
            refine anyH_one 9 47 (.bool true) (by kernel_rfl) (tame_call 47 rfl rfl (by rfl) (fun w'' hS => by go_simp) (fun w'' hS => ((HRM.out _).mono fun e w3 he => ⟨he.1, he.2 ▸ hS⟩))) hS0 (fun wb hS0 => ?_)
            (simp only [List.setIfInBounds_toArray, List.set_cons_zero, List.set_cons_succ])
            refine anyH_take 10 48 (.bool false) rfl rfl (by kernel_rfl) (by kernel_rfl) (by kernel_rfl) (fun _ _ _ h => h) (.inl ⟨by rfl, fun w'' hS => by go_simp⟩) hS0 ?_
            (simp only [List.setIfInBounds_toArray, List.set_cons_zero, List.set_cons_succ])
            refine wpAnyH_done (by kernel_rfl) ?_ _
            have HF2 := Lib.hid (HF.out.trans hS0 (fun _ _ q => q))
            clear hS0
            clear hS0
            clear hS0 hcell
            go_wp2_with fail
            refine ⟨⟨k + 1, t + z1, true, by norm_cast, rfl, rfl, by have := HLT.out; omega, by omega, by omega, Lib.hid ⟨by rw [HN.out.1, ← HT.out.1]; rfl, fun _ => by rw [HN.out.2, ← HT.out.2 trivial]⟩, HF2⟩, ?_⟩
            simp only [intOf]
            have := HLT.out
            omega
          | false =>
            clear hbd
            go_wp2_with fail
            refine (HRM.out _).mono ?_
            rintro e w2 ⟨rfl, rfl⟩
            go_upto_region 11 with fail
            refine wp_region_held_drew (S := fun w' => Fr (fun _ => False) wr w') (by kernel_rfl) ((Fr.refl _ wr).drew) (fun hS0 => ?_)
            refine anyH_take 0 38 (.slice (some ⟨b1, o1, none⟩) m c1) rfl rfl (by kernel_rfl) (by kernel_rfl) (by kernel_rfl) (fun _ _ _ h => h) (.inl ⟨by rfl, fun w'' hS => by go_simp⟩) hS0 ?_
            (simp only [List.setIfInBounds_toArray, List.set_cons_zero, List.set_cons_succ])
            refine anyH_take 1 39 (.int .i64 (k : Nat)) rfl rfl (by kernel_rfl) (by kernel_rfl) (by kernel_rfl) (fun _ _ _ h => h) (.inl ⟨by rfl, fun w'' hS => by go_simp⟩) hS0 ?_
            (simp only [List.setIfInBounds_toArray, List.set_cons_zero, List.set_cons_succ])
            refine anyH_take 2 40 (.pointer (some ⟨b1, o1 + k, none⟩)) rfl rfl (by kernel_rfl) (by kernel_rfl) (by kernel_rfl) (fun _ _ _ h => h) (.inl ⟨by rfl, fun w'' hS => by have q0 := HKI.out.1; have q1 := HKI.out.2.1; have q2 := HKI.out.2.2; go_simp⟩) hS0 ?_
            (simp only [List.setIfInBounds_toArray, List.set_cons_zero, List.set_cons_succ])
            refine anyH_take 3 41 (.int .i64 z1) rfl rfl (by kernel_rfl) (by kernel_rfl) (by kernel_rfl) (fun _ _ _ h => h) (.inl ⟨by rfl, fun w'' hS => by have q0 := hcell _ hS; go_simp⟩) hS0 ?_
            (simp only [List.setIfInBounds_toArray, List.set_cons_zero, List.set_cons_succ])
            refine anyH_take 5 43 (.slice (some ⟨b1, o1, none⟩) m c1) rfl rfl (by kernel_rfl) (by kernel_rfl) (by kernel_rfl) (fun _ _ _ h => h) (.inl ⟨by rfl, fun w'' hS => by go_simp⟩) hS0 ?_
            (simp only [List.setIfInBounds_toArray, List.set_cons_zero, List.set_cons_succ])
            refine anyH_take 6 44 (.int .i64 (k : Nat)) rfl rfl (by kernel_rfl) (by kernel_rfl) (by kernel_rfl) (fun _ _ _ h => h) (.inl ⟨by rfl, fun w'' hS => by go_simp⟩) hS0 ?_
            (simp only [List.setIfInBounds_toArray, List.set_cons_zero, List.set_cons_succ])
            refine anyH_take 7 45 (.pointer (some ⟨b1, o1 + k, none⟩)) rfl rfl (by kernel_rfl) (by kernel_rfl) (by kernel_rfl) (fun _ _ _ h => h) (.inl ⟨by rfl, fun w'' hS => by have q0 := HKI.out.1; have q1 := HKI.out.2.1; have q2 := HKI.out.2.2; go_simp⟩) hS0 ?_
            (simp only [List.setIfInBounds_toArray, List.set_cons_zero, List.set_cons_succ])
            refine anyH_take 8 46 (.int .i64 z1) rfl rfl (by kernel_rfl) (by kernel_rfl) (by kernel_rfl) (fun _ _ _ h => h) (.inl ⟨by rfl, fun w'' hS => by have q0 := hcell _ hS; go_simp⟩) hS0 ?_
            (simp only [List.setIfInBounds_toArray, List.set_cons_zero, List.set_cons_succ])
            refine anyH_one 4 42 (.bool false) (by kernel_rfl) (tame_call 42 rfl rfl (by rfl) (fun w'' hS => by go_simp) (fun w'' hS => ((HPM.out _).mono fun e w3 he => ⟨he.1, hS.trans he.2 (fun _ _ q => q)⟩))) hS0 (fun wa hS0 => ?_)
            (simp only [List.setIfInBounds_toArray, List.set_cons_zero, List.set_cons_succ])
            refine anyH_one 9 47 (.bool false) (by kernel_rfl) (tame_call 47 rfl rfl (by rfl) (fun w'' hS => by go_simp) (fun w'' hS => ((HRM.out _).mono fun e w3 he => ⟨he.1, he.2 ▸ hS⟩))) hS0 (fun wb hS0 => ?_)
            (simp only [List.setIfInBounds_toArray, List.set_cons_zero, List.set_cons_succ])
            refine anyH_take 10 48 (.bool false) rfl rfl (by kernel_rfl) (by kernel_rfl) (by kernel_rfl) (fun _ _ _ h => h) (.inl ⟨by rfl, fun w'' hS => by go_simp⟩) hS0 ?_
            (simp only [List.setIfInBounds_toArray, List.set_cons_zero, List.set_cons_succ])
            refine wpAnyH_done (by kernel_rfl) ?_ _
            have HF2 := Lib.hid (HF.out.trans hS0 (fun _ _ q => q))
            clear hS0
            clear hS0
            clear hS0 hcell
            go_wp2_with fail
            refine ⟨⟨k + 1, t, false, by norm_cast, rfl, rfl, by have := HLT.out; omega, by omega, by omega, Lib.hid ⟨by rw [HN.out.1, ← HT.out.1]; rfl, fun q => by cases q⟩, HF2⟩, ?_⟩
            simp only [intOf]
            have := HLT.out
            omega
        | false =>
          have HTf : Hid (((zs.take (k + 1)).all mayF) = false) := Lib.hid (by rw [HN.out.1, ← HT.out.1]; rfl)
          clear hbd
          cases bz with
          | true =>
            go_upto_region 11 with fail
            refine wp_region_held_drew (S := fun w' => Fr (fun _ => False) wr w') (by kernel_rfl) ((Fr.refl _ wr).drew) (fun hS0 => ?_)
            refine anyH_take 0 38 (.slice (some ⟨b1, o1, none⟩) m c1) rfl rfl (by kernel_rfl) (by kernel_rfl) (by kernel_rfl) (fun _ _ _ h => h) (.inl ⟨by rfl, fun w'' hS => by go_simp⟩) hS0 ?_
            (simp only [List.setIfInBounds_toArray, List.set_cons_zero, List.set_cons_succ])
            refine anyH_take 1 39 (.int .i64 (k : Nat)) rfl rfl (by kernel_rfl) (by kernel_rfl) (by kernel_rfl) (fun _ _ _ h => h) (.inl ⟨by rfl, fun w'' hS => by go_simp⟩) hS0 ?_
            (simp only [List.setIfInBounds_toArray, List.set_cons_zero, List.set_cons_succ])
            refine anyH_take 2 40 (.pointer (some ⟨b1, o1 + k, none⟩)) rfl rfl (by kernel_rfl) (by kernel_rfl) (by kernel_rfl) (fun _ _ _ h => h) (.inl ⟨by rfl, fun w'' hS => by have q0 := HKI.out.1; have q1 := HKI.out.2.1; have q2 := HKI.out.2.2; go_simp⟩) hS0 ?_
            (simp only [List.setIfInBounds_toArray, List.set_cons_zero, List.set_cons_succ])
            refine anyH_take 3 41 (.int .i64 z1) rfl rfl (by kernel_rfl) (by kernel_rfl) (by kernel_rfl) (fun _ _ _ h => h) (.inl ⟨by rfl, fun w'' hS => by have q0 := hcell _ hS; go_simp⟩) hS0 ?_
            (simp only [List.setIfInBounds_toArray, List.set_cons_zero, List.set_cons_succ])
            refine anyH_take 5 43 (.slice (some ⟨b1, o1, none⟩) m c1) rfl rfl (by kernel_rfl) (by kernel_rfl) (by kernel_rfl) (fun _ _ _ h => h) (.inl ⟨by rfl, fun w'' hS => by go_simp⟩) hS0 ?_
            (simp only [List.setIfInBounds_toArray, List.set_cons_zero, List.set_cons_succ])
            refine anyH_take 6 44 (.int .i64 (k : Nat)) rfl rfl (by kernel_rfl) (by kernel_rfl) (by kernel_rfl) (fun _ _ _ h => h) (.inl ⟨by rfl, fun w'' hS => by go_simp⟩) hS0 ?_
            (simp only [List.setIfInBounds_toArray, List.set_cons_zero, List.set_cons_succ])
            refine anyH_take 7 45 (.pointer (some ⟨b1, o1 + k, none⟩)) rfl rfl (by kernel_rfl) (by kernel_rfl) (by kernel_rfl) (fun _ _ _ h => h) (.inl ⟨by rfl, fun w'' hS => by have q0 := HKI.out.1; have q1 := HKI.out.2.1; have q2 := HKI.out.2.2; go_simp⟩) hS0 ?_
            (simp only [List.setIfInBounds_toArray, List.set_cons_zero, List.set_cons_succ])
            refine anyH_take 8 46 (.int .i64 z1) rfl rfl (by kernel_rfl) (by kernel_rfl) (by kernel_rfl) (fun _ _ _ h => h) (.inl ⟨by rfl, fun w'' hS => by have q0 := hcell _ hS; go_simp⟩) hS0 ?_
            (simp only [List.setIfInBounds_toArray, List.set_cons_zero, List.set_cons_succ])
            refine anyH_one 4 42 (.bool true) (by kernel_rfl) (tame_call 42 rfl rfl (by rfl) (fun w'' hS => by go_simp) (fun w'' hS => ((HPM.out _).mono fun e w3 he => ⟨he.1, hS.trans he.2 (fun _ _ q => q)⟩))) hS0 (fun wa hS0 => ?_)
            (simp only [List.setIfInBounds_toArray, List.set_cons_zero, List.set_cons_succ])
            refine anyH_one 9 47 (.bool true) (by kernel_rfl) (tame_call 47 rfl rfl (by rfl) (fun w'' hS => by go_simp) (fun w'' hS => ((HRM.out _).mono fun e w3 he => ⟨he.1, he.2 ▸ hS⟩))) hS0 (fun wb hS0 => ?_)
            (simp only [List.setIfInBounds_toArray, List.set_cons_zero, List.set_cons_succ])
            refine anyH_take 10 48 (.bool false) rfl rfl (by kernel_rfl) (by kernel_rfl) (by kernel_rfl) (fun _ _ _ h => h) (.inl ⟨by rfl, fun w'' hS => by go_simp⟩) hS0 ?_
            (simp only [List.setIfInBounds_toArray, List.set_cons_zero, List.set_cons_succ])
            refine wpAnyH_done (by kernel_rfl) ?_ _
            have HF2 := Lib.hid (HF.out.trans hS0 (fun _ _ q => q))
            clear hS0
            clear hS0
            clear hS0 hcell
            go_wp2_with fail
            refine ⟨⟨k + 1, t, false, by norm_cast, rfl, rfl, by have := HLT.out; omega, by omega, by omega, Lib.hid ⟨HTf.out.symm, fun q => by cases q⟩, HF2⟩, ?_⟩
            simp only [intOf]
            have := HLT.out
            omega
          | false =>
            go_upto_region 11 with fail
            refine wp_region_held_drew (S := fun w' => Fr (fun _ => False) wr w') (by kernel_rfl) ((Fr.refl _ wr).drew) (fun hS0 => ?_)
            refine anyH_take 0 38 (.slice (some ⟨b1, o1, none⟩) m c1) rfl rfl (by kernel_rfl) (by kernel_rfl) (by kernel_rfl) (fun _ _ _ h => h) (.inl ⟨by rfl, fun w'' hS => by go_simp⟩) hS0 ?_
            (simp only [List.setIfInBounds_toArray, List.set_cons_zero, List.set_cons_succ])
            refine anyH_take 1 39 (.int .i64 (k : Nat)) rfl rfl (by kernel_rfl) (by kernel_rfl) (by kernel_rfl) (fun _ _ _ h => h) (.inl ⟨by rfl, fun w'' hS => by go_simp⟩) hS0 ?_
            (simp only [List.setIfInBounds_toArray, List.set_cons_zero, List.set_cons_succ])
            refine anyH_take 2 40 (.pointer (some ⟨b1, o1 + k, none⟩)) rfl rfl (by kernel_rfl) (by kernel_rfl) (by kernel_rfl) (fun _ _ _ h => h) (.inl ⟨by rfl, fun w'' hS => by have q0 := HKI.out.1; have q1 := HKI.out.2.1; have q2 := HKI.out.2.2; go_simp⟩) hS0 ?_
            (simp only [List.setIfInBounds_toArray, List.set_cons_zero, List.set_cons_succ])
            refine anyH_take 3 41 (.int .i64 z1) rfl rfl (by kernel_rfl) (by kernel_rfl) (by kernel_rfl) (fun _ _ _ h => h) (.inl ⟨by rfl, fun w'' hS => by have q0 := hcell _ hS; go_simp⟩) hS0 ?_
            (simp only [List.setIfInBounds_toArray, List.set_cons_zero, List.set_cons_succ])
            refine anyH_take 5 43 (.slice (some ⟨b1, o1, none⟩) m c1) rfl rfl (by kernel_rfl) (by kernel_rfl) (by kernel_rfl) (fun _ _ _ h => h) (.inl ⟨by rfl, fun w'' hS => by go_simp⟩) hS0 ?_
            (simp only [List.setIfInBounds_toArray, List.set_cons_zero, List.set_cons_succ])
            refine anyH_take 6 44 (.int .i64 (k : Nat)) rfl rfl (by kernel_rfl) (by kernel_rfl) (by kernel_rfl) (fun _ _ _ h => h) (.inl ⟨by rfl, fun w'' hS => by go_simp⟩) hS0 ?_
            (simp only [List.setIfInBounds_toArray, List.set_cons_zero, List.set_cons_succ])
            refine anyH_take 7 45 (.pointer (some ⟨b1, o1 + k, none⟩)) rfl rfl (by kernel_rfl) (by kernel_rfl) (by kernel_rfl) (fun _ _ _ h => h) (.inl ⟨by rfl, fun w'' hS => by have q0 := HKI.out.1; have q1 := HKI.out.2.1; have q2 := HKI.out.2.2; go_simp⟩) hS0 ?_
            (simp only [List.setIfInBounds_toArray, List.set_cons_zero, List.set_cons_succ])
            refine anyH_take 8 46 (.int .i64 z1) rfl rfl (by kernel_rfl) (by kernel_rfl) (by kernel_rfl) (fun _ _ _ h => h) (.inl ⟨by rfl, fun w'' hS => by have q0 := hcell _ hS; go_simp⟩) hS0 ?_
            (simp only [List.setIfInBounds_toArray, List.set_cons_zero, List.set_cons_succ])
            refine anyH_one 4 42 (.bool false) (by kernel_rfl) (tame_call 42 rfl rfl (by rfl) (fun w'' hS => by go_simp) (fun w'' hS => ((HPM.out _).mono fun e w3 he => ⟨he.1, hS.trans he.2 (fun _ _ q => q)⟩))) hS0 (fun wa hS0 => ?_)
            (simp only [List.setIfInBounds_toArray, List.set_cons_zero, List.set_cons_succ])
            refine anyH_one 9 47 (.bool false) (by kernel_rfl) (tame_call 47 rfl rfl (by rfl) (fun w'' hS => by go_simp) (fun w'' hS => ((HRM.out _).mono fun e w3 he => ⟨he.1, he.2 ▸ hS⟩))) hS0 (fun wb hS0 => ?_)
            (simp only [List.setIfInBounds_toArray, List.set_cons_zero, List.set_cons_succ])
            refine anyH_take 10 48 (.bool false) rfl rfl (by kernel_rfl) (by kernel_rfl) (by kernel_rfl) (fun _ _ _ h => h) (.inl ⟨by rfl, fun w'' hS => by go_simp⟩) hS0 ?_
            (simp only [List.setIfInBounds_toArray, List.set_cons_zero, List.set_cons_succ])
            refine wpAnyH_done (by kernel_rfl) ?_ _
            have HF2 := Lib.hid (HF.out.trans hS0 (fun _ _ q => q))
            clear hS0
            clear hS0
            clear hS0 hcell
            go_wp2_with fail
            refine ⟨⟨k + 1, t, false, by norm_cast, rfl, rfl, by have := HLT.out; omega, by omega, by omega, Lib.hid ⟨HTf.out.symm, fun q => by cases q⟩, HF2⟩, ?_⟩
            simp only [intOf]
            have := HLT.out
            omega
      · obtain rfl : k = m := by omega
        obtain ⟨hE, hSE, hm⟩ := HE.out
        have htk : zs.take k = zs := List.take_of_length_le (by omega)
        obtain ⟨hmb, hts⟩ := HT.out
        rw [htk] at hmb hts
        have ht8 : -1100000000000000 ≤ t := by omega
        have ht9 : t ≤ 1100000000000000 := by omega
        have HRM := Lib.hid (fun W => rmayf_any t W)
        have htt : (t == t) = true := by simp
        clear htk ht0 ht1
        by_cases h2 : 1000 < k
        · have h2i : (1000 : Int) < (k : Int) := by omega
          rw [if_pos h2] at hE
          subst hE
          rw [if_neg (by omega)] at hSE
          subst hSE
          clear hmb hts hm hlt h2
          go_wp2_with fail
          refine (HK.out _ HF.out).mono ?_
          rintro e w2 ⟨rfl, f2⟩
          have HF2 := Lib.hid (HF.out.trans f2 (fun _ _ q => q))
          clear f2
          go_wp2_with fail
          go_ret
          exact ⟨rfl, HF2.out⟩
        · have h2i : ¬ (1000 : Int) < (k : Int) := by omega
          rw [if_neg h2] at hE
          cases mb with
          | false =>
            rw [← hmb, if_neg (by simp)] at hE
            subst hE
            rw [if_neg (by omega)] at hSE
            subst hSE
            clear hmb hts hm hlt h2
            go_wp2_with fail
            refine (HK.out _ HF.out).mono ?_
            rintro e w2 ⟨rfl, f2⟩
            have HF2 := Lib.hid (HF.out.trans f2 (fun _ _ q => q))
            clear f2
            go_wp2_with fail
            go_ret
            exact ⟨rfl, HF2.out⟩
          | true =>
            have hte := hts rfl
            rw [← hmb, ← hte, Bool.true_and] at hE
            rw [← hte] at hSE
            cases hmt : mayF t with
            | false =>
              rw [hmt] at HRM
              rw [hmt, if_neg (by simp)] at hE
              subst hE
              rw [if_neg (by omega)] at hSE
              subst hSE
              clear hmb hts hm hlt h2 hte hmt
              go_wp2_with fail
              refine (HRM.out _).mono ?_
              rintro e w3 ⟨rfl, rfl⟩
              go_wp2_with fail
              refine (HK.out _ HF.out).mono ?_
              rintro e w2 ⟨rfl, f2⟩
              have HF2 := Lib.hid (HF.out.trans f2 (fun _ _ q => q))
              clear f2
              go_wp2_with fail
              go_ret
              exact ⟨rfl, HF2.out⟩
            | true =>
              rw [hmt] at HRM
              rw [hmt, if_pos rfl] at hE
              subst hE
              rw [if_pos rfl] at hSE
              subst hSE
              clear hmb hts hm hlt h2 hte hmt
              go_wp2_with fail
              refine (HRM.out _).mono ?_
              rintro e w3 ⟨rfl, rfl⟩
              go_wp2_with fail
              refine (HK.out _ HF.out).mono ?_
              rintro e w2 ⟨rfl, f2⟩
              have HF2 := Lib.hid (HF.out.trans f2 (fun _ _ q => q))
              clear f2
              go_wp2_with fail
              go_ret
              exact ⟨rfl, HF2.out⟩
end Go.Proofs.YtfonchobolhkoaaDoor
