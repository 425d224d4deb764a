/- A map of statuses to statuses. -/
import Derived.Test.YthffnepfnadakaaSwk
import Derived.Maps.OwnSet
import Derived.Maps.Ext
import Derived.Carry
import Derived.MapFrom
namespace Go.Proofs.Ythffnepfnadakaa
open Go.RowKit Go.Maps

abbrev HV : Value → Option (DataW Value × List MemPlace) := fun v => some (.held v, [])
abbrev ky (i : Nat) : Lit := .int .i64 (i : Int)
theorem kyT : Maps.Keyed Try.prog 22 := Maps.int_keyed Try.underlying22
theorem ky_of {i : Nat} (h : i ≤ 8192) : keyOf Try.prog 22 (.int .i64 (i : Int)) = some (ky i) := Maps.keyOf_int_mk Try.underlying22 (WalkArith.wf_i64 (by omega))
theorem ky_inj {i j : Nat} (h : i ≠ j) : ky i ≠ ky j := fun e => by
  simp only [ky, Lit.int.injEq, true_and] at e
  omega
theorem ky_lit (i : Nat) (h : i ≤ 8192) : WideAt.IsKeyLit (ky i) := kyT.key (ky_of h)
theorem map_keep {G : Nat → Prop} {w w' : World} {M k : Nat} {D : DataW Value} (h : w.ownsMap Try.prog 22 HV M k D) (f : Fr G w w') (hM : ¬ G M) : w'.ownsMap Try.prog 22 HV M k D := by
  have hlt := h.lt
  obtain ⟨es, clock, hb, r⟩ := h
  exact ⟨es, clock, (f.block M hlt hM).trans hb, r⟩
theorem map_tight {w : World} {M k : Nat} {D : DataW Value} (h : w.ownsMap Try.prog 22 HV M k D) : w.ownsMap Try.prog 22 HV M (Maps.size D) D := by
  obtain ⟨es, clock, hb, F, hs, rfl⟩ := h
  exact ⟨es, clock, hb, F, Nat.le_of_eq (length_read es).symm, rfl⟩
theorem lenle_s {l : List Nat} {n : Nat} (hd : l.Nodup) (h : ∀ x ∈ l, x < n) : l.length ≤ n := by
  have hp : l.Perm ((List.range n).filter (fun x => decide (x ∈ l))) := by
    refine (List.perm_ext_iff_of_nodup hd (List.nodup_range.filter _)).2 fun x => ?_
    simp only [List.mem_filter, List.mem_range, decide_eq_true_eq]
    exact ⟨fun hx => ⟨h x hx, hx⟩, fun hx => hx.2⟩
  rw [hp.length_eq]
  exact Nat.le_trans (List.length_filter_le _ _) (by simp)
theorem size_le {D : DataW Value} {n : Nat} (ht : Maps.Canon D) (hk : ∀ k, Maps.has D k = true → ∃ i, k = ky i ∧ i < n) : Maps.size D ≤ n := by
  obtain ⟨es, rfl, hp0, hlit⟩ := ht
  have hp := Maps.apart_of_rising hp0
  have hm : ∀ p ∈ es, ∃ i, p.1 = ky i ∧ i < n := fun p hpm => by
    refine hk p.1 ?_
    rw [Maps.has_eq, List.any_eq_true]
    exact ⟨p, hpm, WideAt.sameKey_self (hlit p hpm)⟩
  let f : Lit × DataW Value → Nat := fun p => match p.1 with | .int _ z => z.toNat | _ => 0
  have hf : ∀ p ∈ es, p.1 = ky (f p) := fun p hpm => by
    obtain ⟨i, hi, _⟩ := hm p hpm
    have : f p = i := by simp [f, hi]
    rw [this, hi]
  have := lenle_s (l := es.map f) (n := n) ?_ ?_
  · simpa [Maps.size] using this
  · rw [List.Nodup, List.pairwise_map]
    refine hp.imp_of_mem fun {p q} hp1 hq1 hne e => hne ?_
    rw [hf p hp1, hf q hq1, e]
  · intro x hx
    obtain ⟨p, hpm, rfl⟩ := List.mem_map.1 hx
    obtain ⟨i, hi, hlt⟩ := hm p hpm
    have : f p = i := by simp [f, hi]
    omega
/-- A map of statuses, in block M (none: there is none); all keys lie below 100. -/
def SMap (w : World) (M : Nat) (f : Nat → Option Nat) : Prop :=
  ∃ D, w.ownsMap Try.prog 22 HV M (Maps.size D) D ∧ (∀ k, Maps.has D k = true → ∃ i, k = ky i ∧ i < 100) ∧ (∀ i, i < 100 → (Maps.has D (ky i) = true ↔ f i ≠ none)) ∧ (∀ i x, i < 100 → f i = some x → ∀ z, D.atKey (ky i) z = .held (.int .i64 ((x : Nat) : Int))) ∧ (∀ i, f i ≠ none → i < 100)
def updS (f : Nat → Option Nat) (i x : Nat) : Nat → Option Nat := fun j => if j = i then some x else f j
theorem updS_self (f : Nat → Option Nat) (i x : Nat) : updS f i x i = some x := by simp [updS]
theorem updS_ne {f : Nat → Option Nat} {i j x : Nat} (h : j ≠ i) : updS f i x j = f j := by simp [updS, h]
theorem zeroSt (w : World) : (zeroValue 22).run Try.prog w = .ok (.int .i64 0) w := by
  obtain ⟨i0, hi, hz0, hz1, hz2⟩ := info_parts infoSt
  simp [zeroValue, typeInfo, hi, hz0]
theorem turned_fr {w w' : World} {M : Nat} (h : w.mapTurned w' M) : Fr (fun b => b = M) w w' :=
  (Fr.refl _ w).grown h.grown (fun j hj => .inl (by injection hj with hj; exact hj.symm))
section
variable {w w' : World} {M : Nat} {f : Nat → Option Nat}
theorem SMap.lt (h : SMap w M f) : M < w.heap.size := by
  obtain ⟨D, h1, _⟩ := h
  exact h1.lt
theorem SMap.keep {G : Nat → Prop} (h : SMap w M f) (g : Fr G w w') (hM : ¬ G M) : SMap w' M f := by
  obtain ⟨D, h1, h2⟩ := h
  exact ⟨D, map_keep h1 g hM, h2⟩
theorem SMap.out (h : SMap w M f) {i : Nat} (hi : 100 ≤ i) : f i = none := Decidable.byContradiction fun q => by
  obtain ⟨D, _, _, _, _, h5⟩ := h
  have := h5 i q
  omega
/-- A look-up. -/
theorem SMap.look (h : SMap w M f) {i : Nat} (hi : i ≤ 8192) (c : Bool) :
    (Instr.lookup 48 (.map (some M)) (.int .i64 (i : Int)) c).run Try.prog w = .ok (if c then .tuple #[.int .i64 (((f i).getD 0 : Nat) : Int), .bool (f i).isSome] else .int .i64 (((f i).getD 0 : Nat) : Int)) w := by
  have hout := fun q => h.out (i := i) q
  obtain ⟨D, h1, h2, h3, h4, h5⟩ := h
  have hhas : Maps.has D (ky i) = (f i).isSome := by
    by_cases hiN : i < 100
    · rw [Bool.eq_iff_iff, h3 i hiN]
      cases f i <;> simp
    · rw [hout (by omega), Option.isSome_none, Bool.eq_false_iff]
      intro q
      obtain ⟨j, hj, hjN⟩ := h2 _ q
      by_cases hij : i = j
      · omega
      · exact ky_inj hij hj
  have hat : D.atKey (ky i) (.held (.int .i64 0)) = .held (.int .i64 (((f i).getD 0 : Nat) : Int)) := by
    cases q : f i with
    | none =>
      refine Maps.atKey_of_not_has ?_ _
      rw [hhas, q]
      rfl
    | some x => exact h4 i x (h5 i (by rw [q]; simp)) q _
  cases c with
  | true =>
    obtain ⟨v, ps, hrun, hv⟩ := h1.look_ok kyT Try.underlying48 (zeroSt w) (zd := .held (.int .i64 0)) (zp := []) rfl (ky_of hi)
    rw [hat] at hv
    have hv2 : v = .int .i64 (((f i).getD 0 : Nat) : Int) := by
      simp only [HV, Option.some.injEq, Prod.mk.injEq, DataW.held.injEq] at hv
      exact hv.1
    rw [hrun, hhas, hv2]
    rfl
  | false =>
    obtain ⟨v, ps, hrun, hv⟩ := h1.lookup kyT Try.underlying48 (zeroSt w) (zd := .held (.int .i64 0)) (zp := []) rfl (ky_of hi)
    rw [hat] at hv
    have hv2 : v = .int .i64 (((f i).getD 0 : Nat) : Int) := by
      simp only [HV, Option.some.injEq, Prod.mk.injEq, DataW.held.injEq] at hv
      exact hv.1
    rw [hrun, hv2]
    rfl
/-- m[i] = x. -/
theorem SMap.put (h : SMap w M f) {i : Nat} (hi : i < 100) (x : Nat) :
    ∃ w', (Instr.mapUpdate 48 (.map (some M)) (.int .i64 (i : Int)) (.int .i64 (x : Int))).run Try.prog w = .ok () w' ∧ SMap w' M (updS f i x) ∧ Fr (fun b => b = M) w w' := by
  obtain ⟨D, h1, h2, h3, h4, h5⟩ := h
  have hs := Proofs.Ythffnepfnadakaa.size_le (h1.canon kyT) h2
  obtain ⟨w', hrun, hm, ht⟩ := h1.store kyT Try.underlying48 (by simp only [maxLen]; omega) (ky_of (by omega : i ≤ 8192)) (val := .int .i64 (x : Int)) (d := .held (.int .i64 (x : Int))) (ps := []) rfl
  refine ⟨w', hrun, ⟨_, map_tight hm, fun k hk => ?_, fun j hj => ?_, fun j y hj hv z => ?_, fun j hv => ?_⟩, turned_fr ht⟩
  · by_cases hki : k = ky i
    · exact ⟨i, hki, hi⟩
    · rw [Maps.has_put_other hki] at hk
      exact h2 k hk
  · by_cases hji : j = i
    · subst hji
      rw [updS_self, Maps.has_put_same h1.isMap (ky_lit j (by omega))]
      simp
    · rw [updS_ne hji, Maps.has_put_other (ky_inj hji)]
      exact h3 j hj
  · by_cases hji : j = i
    · subst hji
      rw [updS_self] at hv
      injection hv with hv
      rw [← hv, Maps.atKey_put_same h1.isMap (ky_lit j (by omega))]
    · rw [updS_ne hji] at hv
      rw [Maps.atKey_put_other (ky_inj hji)]
      exact h4 j y hj hv z
  · by_cases hji : j = i
    · omega
    · rw [updS_ne hji] at hv
      exact h5 j hv
theorem SMap.made (w : World) : SMap (w.alloc (.map #[] 0)) w.heap.size (fun _ => none) :=
  ⟨.map [], World.ownsMap_made w Try.prog 22 HV, fun k hk => (by cases hk), fun i _ => ⟨fun hk => (by cases hk), fun hv => absurd rfl hv⟩, fun i _ _ hv => (by cases hv), fun i hv => absurd rfl hv⟩
/-- At an operation of the walk. -/
theorem wpList_sm_look {ops : Array Oper} {rest : List Oper} {o : Oper} {a : Act} {Q : Exit → Act → World → Prop} (hg : o.guard = none) (m x : Operand) (c : Bool) (hop : o.op = Op.lookup 48 m x c) (h : SMap w M f) (hm : a.eval m = .map (some M)) {i : Nat} (hx : a.eval x = .int .i64 (i : Int)) (hi : i ≤ 8192)
    (hK : wpList Try.prog ops Q rest (a.put o.dst (if c then .tuple #[.int .i64 (((f i).getD 0 : Nat) : Int), .bool (f i).isSome] else .int .i64 (((f i).getD 0 : Nat) : Int))) w) : wpList Try.prog ops Q (o :: rest) a w := by
  refine wpList_plain hg fun K' hK' => ?_
  have hrun := h.look hi c
  unfold Oper.wp
  generalize (if c = true then Value.tuple #[.int .i64 (((f i).getD 0 : Nat) : Int), Value.bool (f i).isSome] else .int .i64 (((f i).getD 0 : Nat) : Int)) = u at hrun hK
  simp [execOp, hop, hm, hx, hrun, Result.andThen]
  exact hK' _ _ hK
theorem wpList_sm_put {ops : Array Oper} {rest : List Oper} {o : Oper} {a : Act} {Q : Exit → Act → World → Prop} (hg : o.guard = none) (m x y : Operand) (hop : o.op = Op.mapUpdate 48 m x y) (h : SMap w M f) (hm : a.eval m = .map (some M)) {i : Nat} (hx : a.eval x = .int .i64 (i : Int)) (hi : i < 100) {p : Nat} (hy : a.eval y = .int .i64 (p : Int))
    (hK : ∀ w', SMap w' M (updS f i p) → Fr (fun b => b = M) w w' → wpList Try.prog ops Q rest (a.put o.dst undef) w') : wpList Try.prog ops Q (o :: rest) a w := by
  refine wpList_plain hg fun K' hK' => ?_
  obtain ⟨w', hrun, h1, h2⟩ := h.put hi p
  unfold Oper.wp
  simp [execOp, hop, hm, hx, hy, hrun, Result.andThen]
  exact hK' _ _ (hK w' h1 h2)
end
end Go.Proofs.Ythffnepfnadakaa
