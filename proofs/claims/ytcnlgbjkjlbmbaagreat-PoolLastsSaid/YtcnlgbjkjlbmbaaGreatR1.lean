/- R1: laid together out of Qmp Qnu Qco Qth Qse. -/
import Derived.Test.YtcnlgbjkjlbmbaaGreatW11
import Derived.Test.YtcnlgbjkjlbmbaaGreatLpq
import Derived.MapFrom
namespace Go.Proofs.YtcnlgbjkjlbmbaaGreat
open Go.RowKit Go.Maps

def PMap (w : World) (M N : Nat) (f : Nat → List UInt8) : Prop :=
 ∃ D, w.ownsMap Tryz.prog 3 HV M (Maps.size D) D ∧ (∀ k, Maps.has D k = true → ∃ i, k = ky i ∧ i < N) ∧ (∀ i, i < N → (Maps.has D (ky i) = true ↔ f i ≠ [])) ∧ (∀ i, i < N → f i ≠ [] → ∀ z, D.atKey (ky i) z = .held (av (f i))) ∧ (∀ i, f i ≠ [] → i < N ∧ (f i).length = 512)
def pgOr (x : List UInt8) : List UInt8 := if x = [] then nought 512 else x
def upd (f : Nat → List UInt8) (i : Nat) (x : List UInt8) : Nat → List UInt8 := fun j => if j = i then x else f j
set_option maxRecDepth 100000 in
theorem upd_self (f : Nat → List UInt8) (i : Nat) (x : List UInt8) : upd f i x i = x := by simp [upd]
set_option maxRecDepth 100000 in
theorem upd_ne {f : Nat → List UInt8} {i j : Nat} {x : List UInt8} (h : j ≠ i) : upd f i x j = f j := by simp [upd, h]
set_option maxRecDepth 100000 in
theorem zeroPg (w : World) : (zeroValue 50).run Tryz.prog w = .ok (av (nought 512)) w := by
 obtain ⟨i0, hi, hz0, hz1, hz2⟩ := info_parts infoPg
 simp [zeroValue, typeInfo, hi, hz0]
section
variable {w w' : World} {M N : Nat} {f : Nat → List UInt8}
set_option maxRecDepth 100000 in
theorem PMap.lt (h : PMap w M N f) : M < w.heap.size := by
 obtain ⟨D, h1, _⟩ := h
 exact h1.lt
set_option maxRecDepth 100000 in
theorem PMap.keep {G : Nat → Prop} (h : PMap w M N f) (g : Fr G w w') (hM : ¬ G M) : PMap w' M N f := by
 obtain ⟨D, h1, h2⟩ := h
 exact ⟨D, map_keep h1 g hM, h2⟩
set_option maxRecDepth 100000 in
theorem PMap.some_lt (h : PMap w M N f) {i : Nat} (hi : f i ≠ []) : i < N ∧ (f i).length = 512 := by
 obtain ⟨D, _, _, _, _, h5⟩ := h
 exact h5 i hi
set_option maxRecDepth 100000 in
theorem PMap.look (h : PMap w M N f) (hN : N ≤ 8192) {i : Nat} (hi : i ≤ 8192) (c : Bool) :
 (Instr.lookup 62 (.map (some M)) (.int .i64 (i : Int)) c).run Tryz.prog w = .ok (if c then .tuple #[av (pgOr (f i)), .bool (decide (f i ≠ []))] else av (pgOr (f i))) w := by
 obtain ⟨D, h1, h2, h3, h4, h5⟩ := h
 have hhas : Maps.has D (ky i) = decide (f i ≠ []) := by
  by_cases hiN : i < N
  · rw [Bool.eq_iff_iff, h3 i hiN]
    simp
  · have e : f i = [] := Decidable.byContradiction fun q => hiN (h5 i q).1
    rw [e]
    simp only [ne_eq, not_true_eq_false, decide_false]
    rw [Bool.eq_false_iff]
    intro q
    obtain ⟨j, hj, hjN⟩ := h2 _ q
    by_cases hij : i = j
    · omega
    · exact ky_inj hij hj
 have hat : D.atKey (ky i) (.held (av (nought 512))) = .held (av (pgOr (f i))) := by
  unfold pgOr
  by_cases q : f i = []
  · rw [if_pos q]
    refine Maps.atKey_of_not_has ?_ _
    rw [hhas, q]
    rfl
  · rw [if_neg q]
    exact h4 i (h5 i q).1 q _
 cases c with
 | true =>
   obtain ⟨v, ps, hrun, hv⟩ := h1.look_ok kyT Tryz.underlying62 (zeroPg w) (zd := .held (av (nought 512))) (zp := []) rfl (ky_of hi)
   rw [hat] at hv
   have hv2 : v = av (pgOr (f i)) := by
    simp only [HV, Option.some.injEq, Prod.mk.injEq, DataW.held.injEq] at hv
    exact hv.1
   rw [hrun, hhas, hv2]
   rfl
 | false =>
   obtain ⟨v, ps, hrun, hv⟩ := h1.lookup kyT Tryz.underlying62 (zeroPg w) (zd := .held (av (nought 512))) (zp := []) rfl (ky_of hi)
   rw [hat] at hv
   have hv2 : v = av (pgOr (f i)) := by
    simp only [HV, Option.some.injEq, Prod.mk.injEq, DataW.held.injEq] at hv
    exact hv.1
   rw [hrun, hv2]
   rfl
set_option maxRecDepth 100000 in
theorem turned_fr {w w' : World} {M : Nat} (h : w.mapTurned w' M) : Fr (fun b => b = M) w w' :=
 (Fr.refl _ w).grown h.grown (fun j hj => .inl (by injection hj with hj; exact hj.symm))
set_option maxRecDepth 100000 in
theorem PMap.put (h : PMap w M N f) (hN : N ≤ 8192) {i : Nat} (hi : i < N) {x : List UInt8} (hx : x.length = 512) :
 ∃ w', (Instr.mapUpdate 62 (.map (some M)) (.int .i64 (i : Int)) (av x)).run Tryz.prog w = .ok () w' ∧ PMap w' M N (upd f i x) ∧ Fr (fun b => b = M) w w' := by
 obtain ⟨D, h1, h2, h3, h4, h5⟩ := h
 have hs := Proofs.YtcnlgbjkjlbmbaaGreat.size_le (h1.canon kyT) h2
 have hx0 : x ≠ [] := fun q => by rw [q] at hx; simp at hx
 obtain ⟨w', hrun, hm, ht⟩ := h1.store kyT Tryz.underlying62 (by simp only [maxLen]; omega) (ky_of (by omega : i ≤ 8192)) (val := av x) (d := .held (av x)) (ps := []) rfl
 refine ⟨w', hrun, ⟨_, map_tight hm, fun k hk => ?_, fun j hj => ?_, fun j hj hv z => ?_, fun j hv => ?_⟩, turned_fr ht⟩
 · by_cases hki : k = ky i
   · exact ⟨i, hki, hi⟩
   · rw [Maps.has_put_other hki] at hk
     exact h2 k hk
 · by_cases hji : j = i
   · subst hji
     rw [upd_self, Maps.has_put_same h1.isMap (ky_lit j (by omega))]
     simp [hx0]
   · rw [upd_ne hji, Maps.has_put_other (ky_inj hji)]
     exact h3 j hj
 · by_cases hji : j = i
   · subst hji
     rw [upd_self, Maps.atKey_put_same h1.isMap (ky_lit j (by omega))]
   · rw [upd_ne hji] at hv ⊢
     rw [Maps.atKey_put_other (ky_inj hji)]
     exact h4 j hj hv z
 · by_cases hji : j = i
   · subst hji
     rw [upd_self]
     exact ⟨hi, hx⟩
   · rw [upd_ne hji] at hv ⊢
     exact h5 j hv
set_option maxRecDepth 100000 in
theorem PMap.del (h : PMap w M N f) (hN : N ≤ 8192) {i : Nat} (hi : i ≤ 8192) (ty : TypeId) :
 ∃ w', (Builtin.delete_ #[62, 3] ty #[.map (some M), .int .i64 (i : Int)]).run Tryz.prog w = .ok (.tuple #[]) w' ∧ PMap w' M N (upd f i []) ∧ Fr (fun b => b = M) w w' := by
 obtain ⟨D, h1, h2, h3, h4, h5⟩ := h
 obtain ⟨w', hrun, hm, ht⟩ := h1.drop kyT Tryz.underlying62 (ky_of hi) ty
 refine ⟨w', hrun, ⟨_, map_tight hm, fun k hk => ?_, fun j hj => ?_, fun j hj hv z => ?_, fun j hv => ?_⟩, turned_fr ht⟩
 · by_cases hki : k = ky i
   · rw [hki, Maps.has_del_same] at hk
     cases hk
   · rw [Maps.has_del_other hki] at hk
     exact h2 k hk
 · by_cases hji : j = i
   · subst hji
     rw [upd_self, Maps.has_del_same]
     simp
   · rw [upd_ne hji, Maps.has_del_other (ky_inj hji)]
     exact h3 j hj
 · by_cases hji : j = i
   · subst hji
     rw [upd_self] at hv
     exact absurd rfl hv
   · rw [upd_ne hji] at hv ⊢
     rw [Maps.atKey_del_other (ky_inj hji)]
     exact h4 j hj hv z
 · by_cases hji : j = i
   · subst hji
     rw [upd_self] at hv
     exact absurd rfl hv
   · rw [upd_ne hji] at hv ⊢
     exact h5 j hv
set_option maxRecDepth 100000 in
theorem PMap.clear (h : PMap w M N f) (ty : TypeId) : ∃ w', (Builtin.clear_ #[62] ty #[.map (some M)]).run Tryz.prog w = .ok (.tuple #[]) w' ∧ PMap w' M N (fun _ => []) ∧ Fr (fun b => b = M) w w' := by
 obtain ⟨D, ⟨es, clock, hb, F, hs, hD⟩, _⟩ := h
 refine ⟨Go.ChangeMaps.setBlock w M (.map #[] clock), ?_, ⟨.map [], ⟨#[], clock, Go.ChangeMaps.heap_setBlock_same hb _, ⟨by simp, Go.MapKept.stamped_empty clock, by simp⟩, Nat.le_refl _, rfl⟩, fun k hk => ?_, fun i _ => ⟨fun hk => ?_, fun hv => absurd rfl hv⟩, fun i _ hv => absurd rfl hv, fun i hv => absurd rfl hv⟩, turned_fr ⟨es, clock, #[], clock, hb, rfl⟩⟩
 · simp [Builtin.clear_, run_underlying Tryz.underlying62, MapKept.run_getObj_map hb, MapKept.run_setObj_map _ hb, Result.andThen, Go.ChangeMaps.setBlock]
 · cases hk
 · cases hk
set_option maxRecDepth 100000 in
theorem PMap.made (w : World) (N : Nat) : PMap (w.alloc (.map #[] 0)) w.heap.size N (fun _ => []) :=
 ⟨.map [], World.ownsMap_made w Tryz.prog 3 HV, fun k hk => (by cases hk), fun i _ => ⟨fun hk => (by cases hk), fun hv => absurd rfl hv⟩, fun i _ hv => absurd rfl hv, fun i hv => absurd rfl hv⟩
def openF (f : Nat → List UInt8) (N : Nat) : List Nat := (List.range N).filter (fun i => !(f i).isEmpty)
set_option maxRecDepth 100000 in
theorem openF_mem {f : Nat → List UInt8} {N i : Nat} : i ∈ openF f N ↔ i < N ∧ f i ≠ [] := by
 simp [openF]
set_option maxRecDepth 100000 in
theorem openF_nodup (f : Nat → List UInt8) (N : Nat) : (openF f N).Nodup := List.nodup_range.filter _
set_option maxRecDepth 100000 in
theorem openF_rising (f : Nat → List UInt8) (N : Nat) : (openF f N).Pairwise (fun a b => a < b) := List.pairwise_lt_range.filter _
set_option maxRecDepth 100000 in
theorem openF_nil (N : Nat) : openF (fun _ => []) N = [] := by
 simp [openF]
set_option maxRecDepth 100000 in
theorem keys_perm {D : DataW Value} (hc : Maps.Canon D) (hk : ∀ k, Maps.has D k = true → ∃ i, k = ky i ∧ i < N) (ho : ∀ i, i < N → (Maps.has D (ky i) = true ↔ f i ≠ [])) : (intKeys D).Perm (asZ (openF f N)) ∧ Maps.size D = (openF f N).length := by
 obtain ⟨es, rfl, hp0, hlit⟩ := hc
 have hp := Maps.apart_of_rising hp0
 have hm : ∀ p ∈ es, ∃ i, p.1 = ky i ∧ i < N := fun p hpm => by
  refine hk p.1 ?_
  rw [Maps.has_eq, List.any_eq_true]
  exact ⟨p, hpm, WideAt.sameKey_self (hlit p hpm)⟩
 have hio : ∀ i : Nat, Go.intOf (ky i) = (i : Int) := fun i => rfl
 have hperm : (intKeys (.map es)).Perm (asZ (openF f N)) := by
  refine (List.perm_ext_iff_of_nodup ?_ ?_).2 fun z => ?_
  · show (es.map fun p => Go.intOf p.1).Nodup
    rw [List.Nodup, List.pairwise_map]
    refine hp.imp_of_mem fun {p q} hp1 hq1 hne e => hne ?_
    obtain ⟨i, hi, _⟩ := hm p hp1
    obtain ⟨j, hj, _⟩ := hm q hq1
    rw [hi, hj, hio, hio] at e
    have : i = j := by omega
    rw [hi, hj, this]
  · rw [List.Nodup, List.pairwise_map]
    exact (openF_nodup f N).imp (fun hne e => hne (by omega))
  · show z ∈ (es.map fun p => Go.intOf p.1) ↔ _
    simp only [List.mem_map]
    constructor
    · rintro ⟨p, hpm, rfl⟩
      obtain ⟨i, hi, hlt⟩ := hm p hpm
      refine ⟨i, openF_mem.2 ⟨hlt, ?_⟩, by rw [hi, hio]⟩
      refine (ho i hlt).1 ?_
      rw [Maps.has_eq, List.any_eq_true, ← hi]
      exact ⟨p, hpm, WideAt.sameKey_self (hlit p hpm)⟩
    · rintro ⟨i, hi, rfl⟩
      obtain ⟨hlt, hv⟩ := openF_mem.1 hi
      have := (ho i hlt).2 hv
      rw [Maps.has_eq, List.any_eq_true] at this
      obtain ⟨p, hpm, hk⟩ := this
      exact ⟨p, hpm, by rw [WideAt.sameKey_eq hk, hio]⟩
 refine ⟨hperm, ?_⟩
 have := hperm.length_eq
 simpa [asZ, intKeys, Maps.size] using this
set_option maxRecDepth 100000 in
theorem openF_sorted (f : Nat → List UInt8) (N : Nat) : (asZ (openF f N)).Pairwise (fun a b => a ≤ b) := by
 rw [List.pairwise_map]
 exact (openF_rising f N).imp (fun h => by omega)
set_option maxRecDepth 100000 in
theorem sorted_keys {D : DataW Value} (hp : (intKeys D).Perm (asZ (openF f N))) {ss : List Int} (hs : ss.Perm (intKeys D)) : ss.mergeSort (fun x y => decide (x ≤ y)) = asZ (openF f N) := by
 have h1 := List.mergeSort_perm ss (fun x y => decide (x ≤ y))
 have h2 := List.pairwise_mergeSort (le := fun x y : Int => decide (x ≤ y)) (fun a b c hab hbc => by simp at *; omega) (fun a b => by simp; omega) ss
 refine List.Perm.eq_of_pairwise (le := fun a b : Int => a ≤ b) (fun a b _ _ hab hba => by omega) (h2.imp (fun hab => by simpa using hab)) (openF_sorted f N) ((h1.trans hs).trans hp)
set_option maxRecDepth 100000 in
theorem PMap.len (h : PMap w M N f) (ty : TypeId) : (Builtin.len_ #[62] ty #[.map (some M)]).run Tryz.prog w = .ok (.int .i64 ((openF f N).length : Nat)) w := by
 obtain ⟨D, h1, h2, h3, _⟩ := h
 rw [h1.len Tryz.underlying62 ty, (keys_perm (h1.canon kyT) h2 h3).2]
set_option maxRecDepth 100000 in
theorem wpList_pm_look {ops : Array Oper} {rest : List Oper} {o : Oper} {a : Act} {Q : Exit → Act → World → Prop} (hg : o.guard = none) (m x : Operand) (c : Bool) (hop : o.op = Op.lookup 62 m x c) (h : PMap w M N f) (hN : N ≤ 8192) (hm : a.eval m = .map (some M)) {i : Nat} (hx : a.eval x = .int .i64 (i : Int)) (hi : i ≤ 8192)
 (hK : wpList Tryz.prog ops Q rest (a.put o.dst (if c then .tuple #[av (pgOr (f i)), .bool (decide (f i ≠ []))] else av (pgOr (f i)))) w) : wpList Tryz.prog ops Q (o :: rest) a w := by
 refine wpList_plain hg fun K' hK' => ?_
 have hrun := h.look hN hi c
 unfold Oper.wp
 generalize (if c = true then Value.tuple #[av (pgOr (f i)), Value.bool (decide (f i ≠ []))] else av (pgOr (f i))) = u at hrun hK
 simp [execOp, hop, hm, hx, hrun, Result.andThen]
 exact hK' _ _ hK
set_option maxRecDepth 100000 in
theorem wpList_pm_put {ops : Array Oper} {rest : List Oper} {o : Oper} {a : Act} {Q : Exit → Act → World → Prop} (hg : o.guard = none) (m x y : Operand) (hop : o.op = Op.mapUpdate 62 m x y) (h : PMap w M N f) (hN : N ≤ 8192) (hm : a.eval m = .map (some M)) {i : Nat} (hx : a.eval x = .int .i64 (i : Int)) (hi : i < N) {p : List UInt8} (hy : a.eval y = av p) (hp : p.length = 512)
 (hK : ∀ w', PMap w' M N (upd f i p) → Fr (fun b => b = M) w w' → wpList Tryz.prog ops Q rest (a.put o.dst undef) w') : wpList Tryz.prog ops Q (o :: rest) a w := by
 refine wpList_plain hg fun K' hK' => ?_
 obtain ⟨w', hrun, h1, h2⟩ := h.put hN hi hp
 unfold Oper.wp
 simp [execOp, hop, hm, hx, hy, hrun, Result.andThen]
 exact hK' _ _ (hK w' h1 h2)
set_option maxRecDepth 100000 in
theorem wpList_pm_del {ops : Array Oper} {rest : List Oper} {o : Oper} {a : Act} {Q : Exit → Act → World → Prop} (hg : o.guard = none) (m x : Operand) (hop : o.op = Op.call { callee := Callee.builtin Builtin.delete, args := #[m, x], argTypes := #[62, 3] }) (h : PMap w M N f) (hN : N ≤ 8192) (hm : a.eval m = .map (some M)) {i : Nat} (hx : a.eval x = .int .i64 (i : Int)) (hi : i ≤ 8192)
 (hK : ∀ w', PMap w' M N (upd f i []) → Fr (fun b => b = M) w w' → wpList Tryz.prog ops Q rest (a.put o.dst (.tuple #[])) w') : wpList Tryz.prog ops Q (o :: rest) a w := by
 refine wpList_plain hg fun K' hK' => ?_
 obtain ⟨w', hrun, h1, h2⟩ := h.del hN hi o.type
 unfold Oper.wp
 simp [execOp, hop, resolve, invoke, builtin, hm, hx, hrun, Result.andThen]
 exact hK' _ _ (hK w' h1 h2)
set_option maxRecDepth 100000 in
theorem wpList_pm_clear {ops : Array Oper} {rest : List Oper} {o : Oper} {a : Act} {Q : Exit → Act → World → Prop} (hg : o.guard = none) (m : Operand) (hop : o.op = Op.call { callee := Callee.builtin Builtin.clear, args := #[m], argTypes := #[62] }) (h : PMap w M N f) (hm : a.eval m = .map (some M))
 (hK : ∀ w', PMap w' M N (fun _ => []) → Fr (fun b => b = M) w w' → wpList Tryz.prog ops Q rest (a.put o.dst (.tuple #[])) w') : wpList Tryz.prog ops Q (o :: rest) a w := by
 refine wpList_plain hg fun K' hK' => ?_
 obtain ⟨w', hrun, h1, h2⟩ := h.clear o.type
 unfold Oper.wp
 simp [execOp, hop, resolve, invoke, builtin, hm, hrun, Result.andThen]
 exact hK' _ _ (hK w' h1 h2)
set_option maxRecDepth 100000 in
theorem wpList_pm_len {ops : Array Oper} {rest : List Oper} {o : Oper} {a : Act} {Q : Exit → Act → World → Prop} (hg : o.guard = none) (m : Operand) (hop : o.op = Op.call { callee := Callee.builtin Builtin.len, args := #[m], argTypes := #[62] }) (h : PMap w M N f) (hm : a.eval m = .map (some M))
 (hK : wpList Tryz.prog ops Q rest (a.put o.dst (.int .i64 ((openF f N).length : Nat))) w) : wpList Tryz.prog ops Q (o :: rest) a w := by
 refine wpList_plain hg fun K' hK' => ?_
 have hrun := h.len o.type
 unfold Oper.wp
 simp [execOp, hop, resolve, invoke, builtin, hm, hrun, Result.andThen]
 exact hK' _ _ hK
end
end Go.Proofs.YtcnlgbjkjlbmbaaGreat

namespace Go.Proofs.YtcnlgbjkjlbmbaaGreat
open Go.RowKit Go.Maps Go.Sort Go.Shelf

set_option maxRecDepth 100000 in
set_option maxHeartbeats 1000000 in
theorem numbers_any {w : World} {M N : Nat} {f : Nat → List UInt8} (h : PMap w M N f) (hN : N ≤ 8192) : Calls Tryz.prog 48 #[.map (some M)] w fun e w' => ∃ v, e = .returned v ∧ w'.ownsRow w.heap.size 3 1 v (openF f N).length ((asZ (openF f N)).map encZ) ∧ Fr (fun _ => False) w w' := by
 obtain ⟨D, hown, hkk, hop, _⟩ := h
 obtain ⟨hkp, hks⟩ := keys_perm (hown.canon kyT) hkk hop
 have hsz : Maps.size D ≤ N := Proofs.YtcnlgbjkjlbmbaaGreat.size_le (hown.canon kyT) hkk
 have hlen : (asZ (openF f N)).length = (openF f N).length := by simp
 refine (callsIn_wide (n := 6)).1 ?_
 have hbl := hown.lt
 have hmax : Maps.size D ≤ maxLen := by simp only [maxLen]; omega
 have hbytes : Maps.size D * 8 ≤ 140737488355328 := by omega
 have hseq : SeqGives Fence.wide 2 Tryz.prog 107 #[.pointer (some ⟨w.heap.size, 0, none⟩)] encZ (fun ss => ss.Perm (intKeys D)) (Maps.size D) (w.alloc (.cells #[.map (some M)] 62)) :=
  AnyZI.keys_gives (ρ := Tryz.keysP_ren) { Tryz.keysP with } Fence.wide _ trivial rfl (by omega) w.heap.size M (Maps.size D) D _ (by simp) (by simp) (by
   obtain ⟨es, clock, hb, Ft, hs, hD⟩ := hown
   exact ⟨es, clock, (Below.heap_alloc _ _ M hbl).trans hb, Ft, hs, hD⟩)
 have cK : ∀ mb W, CallsIn Fence.wide 5 Tryz.prog 78 #[.map mb] W fun e w' => e = .returned (.func (.func 107) #[] #[.pointer (some ⟨W.heap.size, 0, none⟩)]) ∧ w' = W.alloc (.cells #[.map mb] 62) := fun mb W => AnyZI.keys_in Tryz.keysP Fence.wide 5 trivial rfl mb W
 have cS := AnyZI.sorted_in Tryz.sortedA Fence.wide 5 trivial trivial trivial trivial rfl (by omega) (sortsA _) (enters_of Tryz.func94 (by kernel_rfl) rfl) 107 #[.pointer (some ⟨w.heap.size, 0, none⟩)] trivial (enters_of Tryz.func107 (by kernel_rfl) rfl) _ _ hmax hbytes _ hseq
 change CallsIn _ _ Tryz.prog 66 _ _ _ at cS
 have hfK : Fence.wide.fn 78 := trivial
 have hfS : Fence.wide.fn 66 := trivial
 have HD := Lib.hid hkp
 clear hown hbl hmax hbytes hseq hkk hop hkp hks hsz
 refine callsIn_of_wp Tryz.func48 rfl trivial ?_ rfl
 simp only [Tryz.ntmps48, List.size_toArray, List.length_cons, List.length_nil, Nat.reduceAdd, Nat.reduceSub, Array.replicate_succ, Array.replicate_zero, List.push_toArray, List.append_toArray, List.nil_append, List.cons_append]
 gi_wp2_with (first
  | (gi_at_call 78; refine (cK _ _).mono ?_; rintro e w' ⟨rfl, rfl⟩)
  | (gi_at_call 66; refine cS.mono ?_; rintro e w' ⟨v, ss, rfl, hS, hrow, hnil, hb⟩))
 go_ret
 have hso := sorted_keys HD.out hS
 have hsl : ss.length = (openF f N).length := by rw [← hlen, ← hso]; simp
 have hrow' := ownsRow_base_a hrow (by simp : w.heap.size ≤ _)
 rw [hso, hsl] at hrow'
 exact ⟨v, rfl, hrow', Fr.of_below (((Below.refl _ w).alloc (Nat.le_refl _) _).trans (hb.mono (by simp)))⟩
end Go.Proofs.YtcnlgbjkjlbmbaaGreat

namespace Go.Proofs.YtcnlgbjkjlbmbaaGreat
open Go.RowKit

def pcnt (n : Nat) (z : Int) : Nat := if z < 4 ∨ 4000 < z then 0 else (n - (1 + z.toNat)) / 4
set_option maxRecDepth 100000 in
theorem placeof_any (w : World) (z n : Nat) (hz : z ≤ 10000) (hn : n ≤ 100000) : Calls Tryz.prog 61 #[.int .i64 z, .int .i64 n] w fun e w' => e = .returned (.int .i64 ((1 + z + 4 * n : Nat) : Int)) ∧ w = w' := by
 have h1 : IntKind.i64.wrap (1 + (z : Int)) = 1 + (z : Int) := by simp [IntKind.wrap, IntKind.signed, IntKind.bits]; omega
 have h2 : IntKind.i64.wrap ((n : Int) * 4) = (n : Int) * 4 := by simp [IntKind.wrap, IntKind.signed, IntKind.bits]; omega
 have h3 : IntKind.i64.wrap (1 + (z : Int) + (n : Int) * 4) = 1 + (z : Int) + (n : Int) * 4 := by simp [IntKind.wrap, IntKind.signed, IntKind.bits]; omega
 go_enter Tryz.func61, Tryz.ntmps61
 go_wp2_with fail
 go_ret
 refine ⟨?_, rfl⟩
 show Ending.returned (.int .i64 (1 + (z : Int) + (n : Int) * 4)) = _
 congr 2
 omega
set_option maxRecDepth 100000 in
theorem asec_any {w : World} {B g : Nat} {P : Nat → Prop} {d : DS} (h : DAt w B P g d) : Calls Tryz.prog 60 #[.pointer (some ⟨g, 0, none⟩)] w fun e w' => e = .returned (.int .i64 d.rd.length) ∧ w = w' := by
 obtain ⟨⟨R, M, D, val, k1⟩, k2⟩ := h
 exact sectors_any k1.blk
set_option maxRecDepth 100000 in
theorem pcount_of {w : World} {p : Value} {n : Nat} (hn : n ≤ 8192) (HS : Calls Tryz.prog 60 #[p] w fun e w' => e = .returned (.int .i64 n) ∧ w = w') (z : Int) : Calls Tryz.prog 32 #[p, .int .i64 z] w fun e w' => e = .returned (.int .i64 (pcnt n z : Nat)) ∧ w = w' := by
 by_cases h1 : z < 4
 · have e : pcnt n z = 0 := by unfold pcnt; rw [if_pos (.inl h1)]
   rw [e]
   go_enter Tryz.func32, Tryz.ntmps32
   go_wp2_with fail
   go_ret
   exact ⟨rfl, rfl⟩
 by_cases h2 : 4000 < z
 · have e : pcnt n z = 0 := by unfold pcnt; rw [if_pos (.inr h2)]
   rw [e]
   go_enter Tryz.func32, Tryz.ntmps32
   go_wp2_with fail
   go_ret
   exact ⟨rfl, rfl⟩
 obtain ⟨k, rfl⟩ : ∃ k : Nat, z = k := ⟨z.toNat, by omega⟩
 have e : pcnt n k = (n - (1 + k)) / 4 := by unfold pcnt; rw [if_neg (by omega)]; rfl
 rw [e]
 have HP := Lib.hid (placeof_any w k 0 (by omega) (by omega))
 have HS' := Lib.hid HS
 obtain ⟨m, hm⟩ : ∃ m, m = n - (1 + k) := ⟨_, rfl⟩
 rw [← hm]
 have h3 : IntKind.i64.wrap ((n : Int) - ((1 + k + 4 * 0 : Nat) : Int)) = (n : Int) - ((1 + k + 4 * 0 : Nat) : Int) := by simp [IntKind.wrap, IntKind.signed, IntKind.bits]; omega
 have h4 : max (0 : Int) ((n : Int) - ((1 + k + 4 * 0 : Nat) : Int)) = (m : Int) := by omega
 have h5 : IntKind.i64.wrap (Int.tdiv (m : Int) 4) = ((m / 4 : Nat) : Int) := by
  have : Int.tdiv (m : Int) 4 = ((m / 4 : Nat) : Int) := by norm_cast
  rw [this]
  simp [IntKind.wrap, IntKind.signed, IntKind.bits]; omega
 have HM := Lib.hid hm
 clear HS e hm
 go_enter Tryz.func32, Tryz.ntmps32
 go_wp2_with fail
 refine HS'.out.mono ?_
 rintro en w1 ⟨rfl, rfl⟩
 go_wp2_with fail
 refine HP.out.mono ?_
 rintro en w1 ⟨rfl, rfl⟩
 go_wp2_with fail
 go_ret
 refine ⟨?_, rfl⟩
 show Ending.returned (.int .i64 (max 0 ((n : Int) - (1 + (k : Int))) / 4)) = _
 have h6 : max 0 ((n : Int) - (1 + (k : Int))) = (m : Int) := by have := HM.out; omega
 rw [h6]
 congr 2
set_option maxRecDepth 100000 in
theorem pcount_any {w : World} {B g : Nat} {P : Nat → Prop} {d : DS} (h : DAt w B P g d) (z : Int) : Calls Tryz.prog 32 #[.pointer (some ⟨g, 0, none⟩), .int .i64 z] w fun e w' => e = .returned (.int .i64 (pcnt d.rd.length z : Nat)) ∧ w = w' :=
 pcount_of (by have := h.len; omega) (asec_any h) z
def pfitE (n : Nat) (z : Int) : Int := if n = 0 then 1 else if pcnt n z < 4 then 2 else 0
set_option maxRecDepth 100000 in
theorem pfits_of {w : World} {p : Value} {n : Nat} (hn : n ≤ 8192) (HS : Calls Tryz.prog 60 #[p] w fun e w' => e = .returned (.int .i64 n) ∧ w = w') (z : Int) : Calls Tryz.prog 42 #[p, .int .i64 z] w fun e w' => e = .returned (.int .i64 (pfitE n z)) ∧ w = w' := by
 have HC := Lib.hid (pcount_of hn HS z)
 have HS' := Lib.hid HS
 obtain ⟨c, hc⟩ : ∃ c, c = pcnt n z := ⟨_, rfl⟩
 have he : pfitE n z = if n = 0 then 1 else if c < 4 then 2 else 0 := by rw [hc]; rfl
 rw [← hc] at HC
 rw [he]
 clear HS hc he
 by_cases h0 : n = 0
 · rw [if_pos h0]
   subst h0
   go_enter Tryz.func42, Tryz.ntmps42
   go_wp2_with fail
   refine HS'.out.mono ?_
   rintro en w1 ⟨rfl, rfl⟩
   go_wp2_with fail
   go_ret
   exact ⟨rfl, rfl⟩
 rw [if_neg h0]
 have h0' : ((n : Int) == 0) = false := by rw [beq_eq_false_iff_ne]; omega
 by_cases h1 : c < 4
 · rw [if_pos h1]
   have h1' : (c : Int) < 4 := by omega
   go_enter Tryz.func42, Tryz.ntmps42
   go_wp2_with fail
   refine HS'.out.mono ?_
   rintro en w1 ⟨rfl, rfl⟩
   go_wp2_with fail
   refine HC.out.mono ?_
   rintro en w1 ⟨rfl, rfl⟩
   go_wp2_with fail
   go_ret
   exact ⟨rfl, rfl⟩
 · rw [if_neg h1]
   have h1' : ¬ (c : Int) < 4 := by omega
   go_enter Tryz.func42, Tryz.ntmps42
   go_wp2_with fail
   refine HS'.out.mono ?_
   rintro en w1 ⟨rfl, rfl⟩
   go_wp2_with fail
   refine HC.out.mono ?_
   rintro en w1 ⟨rfl, rfl⟩
   go_wp2_with fail
   go_ret
   exact ⟨rfl, rfl⟩
set_option maxRecDepth 100000 in
theorem zero_cells : Value.agg Tryz.zeroCells83 = av (nought 128) := by kernel_rfl
set_option maxRecDepth 100000 in
theorem pforget_any {w : World} {B g : Nat} {P : Nat → Prop} {d : DS} (h : DAt w B P g d) (hN : (d.vs 0).length ≤ 9000) : Calls Tryz.prog 57 #[.pointer (some ⟨g, 0, none⟩)] w fun e w' =>
 e = .returned (.int .i64 (if d.settles 0 [nought 128] then 0 else 10)) ∧ (∃ P', DAt w' B P' g (d.settle 0 [nought 128]) ∧ ∀ b, P' b → P b ∨ w.heap.size ≤ b) ∧ Fr P w w' := by
 have hl := h.len
 have HW := Lib.hid (awrite_any h (i := 0) (by omega) (s := nought 128) (by rw [nought_len]) (by omega))
 have hlay : d.lay 0 [nought 128] = d.write 0 (nought 128) := rfl
 have e1 : d.settles 0 [nought 128] = (d.write 0 (nought 128)).alive := rfl
 have e2 : d.settle 0 [nought 128] = (d.write 0 (nought 128)).flushed := rfl
 rw [e1, e2]
 obtain ⟨z0, hz0⟩ : ∃ z0, z0 = nought 128 := ⟨_, rfl⟩
 have hzc : Value.agg Tryz.zeroCells83 = av z0 := by rw [hz0]; exact zero_cells
 have HZC := Lib.hid hzc
 clear hzc
 rw [← hz0] at HW ⊢
 obtain ⟨d1, hd1⟩ : ∃ d1, d1 = d.write 0 z0 := ⟨_, rfl⟩
 rw [← hd1] at HW ⊢
 have hdead : d.alive = false → d1.alive = false ∧ d1.flushed = d1 := fun q => by
  have e : d1 = d.step := by rw [hd1]; unfold DS.write; rw [if_neg (by rw [q]; decide)]
  have h1 := alive_step q
  rw [e]
  refine ⟨h1.1, ?_⟩
  unfold DS.flushed
  rw [if_neg (by rw [h1.1]; decide)]
  exact h1.2
 have HD := Lib.hid (And.intro h hdead)
 obtain ⟨r, hr⟩ : ∃ r : Int, r = if d1.alive then 0 else 10 := ⟨_, rfl⟩
 rw [← hr]
 have HR := Lib.hid hr
 clear h hl hlay e1 e2 hz0 hd1 hdead hr
 go_enter Tryz.func57, Tryz.ntmps57
 go_wp2_with fail
 rw [HZC.out]
 refine HW.out.mono ?_
 rintro en w1 ⟨rfl, ⟨P1, hd1, hp1⟩, f1⟩
 cases ha : d.alive with
 | false =>
   have HK := Lib.hid (HD.out.2 ha)
   simp only [Bool.false_eq_true, if_false]
   have H1 := Lib.hid (And.intro hd1 (And.intro hp1 f1))
   clear hd1 hp1 f1 ha
   go_wp2_with fail
   go_ret
   exact ⟨by rw [HR.out, HK.out.1]; rfl, ⟨P1, by rw [HK.out.2]; exact H1.out.1, H1.out.2.1⟩, H1.out.2.2⟩
 | true =>
   simp only [if_true]
   have HF := Lib.hid (aflush_any hd1)
   rw [← HR.out] at HF
   have H1 := Lib.hid (And.intro hp1 f1)
   clear hd1 hp1 f1 ha
   go_wp2_with fail
   refine HF.out.mono ?_
   rintro en w2 ⟨rfl, hd2, f2⟩
   have H2 := Lib.hid (And.intro hd2 f2)
   clear hd2 f2
   go_wp2_with fail
   go_ret
   exact ⟨rfl, ⟨P1, H2.out.1, H1.out.1⟩, H1.out.2.trans H2.out.2 (fun b hb q => by
    rcases H1.out.1 b q with y | y
    · exact y
    · omega)⟩
end Go.Proofs.YtcnlgbjkjlbmbaaGreat

namespace Go.Proofs.YtcnlgbjkjlbmbaaGreat
open Go.RowKit

def DS.puts (d : DS) : List (Nat × List UInt8) → DS
 | [] => d
 | p :: ps => (d.write p.1 p.2).puts ps
set_option maxRecDepth 100000 in
theorem puts_snoc (d : DS) (ps : List (Nat × List UInt8)) (p : Nat × List UInt8) : d.puts (ps ++ [p]) = (d.puts ps).write p.1 p.2 := by
 induction ps generalizing d with
 | nil => rfl
 | cons q qs ih => exact ih _
set_option maxRecDepth 100000 in
theorem puts_app (d : DS) (ps qs : List (Nat × List UInt8)) : d.puts (ps ++ qs) = (d.puts ps).puts qs := by
 induction ps generalizing d with
 | nil => rfl
 | cons p ps ih => exact ih _
set_option maxRecDepth 100000 in
theorem puts_len (d : DS) (ps : List (Nat × List UInt8)) : (d.puts ps).rd.length = d.rd.length := by
 induction ps generalizing d with
 | nil => rfl
 | cons p ps ih => exact (ih _).trans write_len
set_option maxRecDepth 100000 in
theorem puts_vs (d : DS) {ps : List (Nat × List UInt8)} {j : Nat} (h : ∀ p ∈ ps, p.1 ≠ j) : (d.puts ps).vs j = d.vs j := by
 induction ps generalizing d with
 | nil => rfl
 | cons p ps ih => exact (ih (d := d.write p.1 p.2) (fun q hq => h q (by simp [hq]))).trans (write_vs (fun e => h p (by simp) e.symm))
set_option maxRecDepth 100000 in
theorem puts_dead {d : DS} (h : d.alive = false) (ps : List (Nat × List UInt8)) : (d.puts ps).alive = false ∧ (d.puts ps).step = d.step := by
 induction ps generalizing d with
 | nil => exact ⟨h, rfl⟩
 | cons p ps ih =>
   have e : d.write p.1 p.2 = d.step := by unfold DS.write; rw [if_neg (by rw [h]; decide)]
   have h1 := alive_step h
   have := ih (d := d.step) h1.1
   rw [h1.2] at this
   show ((d.write p.1 p.2).puts ps).alive = false ∧ ((d.write p.1 p.2).puts ps).step = _
   rw [e]
   exact this
set_option maxRecDepth 100000 in
theorem puts_cut {d : DS} {ps qs : List (Nat × List UInt8)} (h : (d.puts ps).alive = false) : (d.puts (ps ++ qs)).alive = false ∧ (d.puts (ps ++ qs)).flushed = (d.puts ps).step := by
 rw [puts_app]
 have h1 := puts_dead h qs
 refine ⟨h1.1, ?_⟩
 unfold DS.flushed
 rw [if_neg (by rw [h1.1]; decide)]
 exact h1.2
def pageW (z n : Nat) (x : List UInt8) : List (Nat × List UInt8) := (List.range 4).map fun i => (1 + z + 4 * n + i, (x.drop (i * 128)).take 128)
def pagesW (z : Nat) (f : Nat → List UInt8) (l : List Nat) : List (Nat × List UInt8) := l.flatMap fun n => pageW z n (f n)
set_option maxRecDepth 100000 in
theorem pageW_len (z n : Nat) (x : List UInt8) : (pageW z n x).length = 4 := by simp [pageW]
set_option maxRecDepth 100000 in
theorem pageW_mem {z n : Nat} {x : List UInt8} {p : Nat × List UInt8} (h : p ∈ pageW z n x) : 1 + z + 4 * n ≤ p.1 ∧ p.1 < 1 + z + 4 * n + 4 := by
 simp only [pageW, List.mem_map, List.mem_range] at h
 obtain ⟨i, hi, rfl⟩ := h
 exact ⟨by show _ ≤ 1 + z + 4 * n + i; omega, by show 1 + z + 4 * n + i < _; omega⟩
set_option maxRecDepth 100000 in
theorem pageW_take {z n : Nat} {x : List UInt8} {i : Nat} (hi : i < 4) : (pageW z n x).take (i + 1) = (pageW z n x).take i ++ [(1 + z + 4 * n + i, (x.drop (i * 128)).take 128)] := by
 rw [List.take_add_one]
 have : (pageW z n x)[i]? = some (1 + z + 4 * n + i, (x.drop (i * 128)).take 128) := by
  simp [pageW, hi]
 rw [this]
 rfl
set_option maxRecDepth 100000 in
theorem pagesW_take {z : Nat} {f : Nat → List UInt8} {l : List Nat} {k n : Nat} (h : l[k]? = some n) : pagesW z f (l.take (k + 1)) = pagesW z f (l.take k) ++ pageW z n (f n) := by
 rw [List.take_add_one, h]
 simp [pagesW]
set_option maxRecDepth 100000 in
theorem pagesW_mem {z : Nat} {f : Nat → List UInt8} {l : List Nat} {p : Nat × List UInt8} (h : p ∈ pagesW z f l) : ∃ n ∈ l, 1 + z + 4 * n ≤ p.1 ∧ p.1 < 1 + z + 4 * n + 4 := by
 simp only [pagesW, List.mem_flatMap] at h
 obtain ⟨n, hn, hp⟩ := h
 exact ⟨n, hn, pageW_mem hp⟩
set_option maxRecDepth 100000 in
theorem fresh_at {d : DS} {z : Nat} {f : Nat → List UInt8} {l : List Nat} (hr : l.Pairwise (fun a b => a < b)) {k n i : Nat} (h : l[k]? = some n) : (d.puts (pagesW z f (l.take k) ++ (pageW z n (f n)).take i)).vs (1 + z + 4 * n + i) = d.vs (1 + z + 4 * n + i) := by
 refine puts_vs d fun p hp e => ?_
 rcases List.mem_append.1 hp with q | q
 · obtain ⟨m, hm, h1, h2⟩ := pagesW_mem q
   obtain ⟨j, hj⟩ := List.getElem?_of_mem hm
   have hjk : j < k := by
    have := (List.getElem?_eq_some_iff.1 hj).1
    rw [List.length_take] at this
    omega
   rw [List.getElem?_take, if_pos hjk] at hj
   obtain ⟨h3, h4⟩ := List.getElem?_eq_some_iff.1 hj
   obtain ⟨h5, h6⟩ := List.getElem?_eq_some_iff.1 h
   have := List.pairwise_iff_getElem.1 hr j k h3 h5 hjk
   rw [h4, h6] at this
   omega
 · by_cases hi : i < 4
   · obtain ⟨j, hj⟩ := List.getElem?_of_mem q
     have hji : j < i := by
      have := (List.getElem?_eq_some_iff.1 hj).1
      rw [List.length_take] at this
      omega
     rw [List.getElem?_take, if_pos hji] at hj
     have : (pageW z n (f n))[j]? = some (1 + z + 4 * n + j, ((f n).drop (j * 128)).take 128) := by
      simp [pageW, show j < 4 by omega]
     rw [this] at hj
     injection hj with hj
     rw [← hj] at e
     simp at e
     omega
   · have := (pageW_mem (List.mem_of_mem_take q)).2
     omega
end Go.Proofs.YtcnlgbjkjlbmbaaGreat

namespace Go.Proofs.YtcnlgbjkjlbmbaaGreat
open Go.RowKit

set_option maxRecDepth 100000 in
theorem zeroPgCells : Tryz.zeroCells50 = (cellsB (nought 512)).toArray := by
 have h : Value.agg Tryz.zeroCells50 = av (nought 512) := by kernel_rfl
 injection h
set_option maxRecDepth 100000 in
theorem zeroSecCells : Tryz.zeroCells83 = (cellsB (nought 128)).toArray := by
 have h := zero_cells
 injection h
set_option maxRecDepth 100000 in
theorem put_arr (w1 : World) (t : TypeId) (Z : Array Value) (N : Nat) (hZ : Z = (cellsB (nought N)).toArray) (s : List UInt8) (hs : s.length = N) : ∃ W, W = (w1.alloc (.cells Z t)).setCells w1.heap.size 0 (cellsB s) ∧ Blk W w1.heap.size t (cellsB s).toArray ∧ W.rangeAt w1.heap.size 0 (cellsB s) ∧ Fr (fun _ => False) w1 W ∧ (w1.alloc (.cells Z t)).there w1.heap.size 0 (cellsB s).toArray.size := by
 subst hZ
 have hb := Blk.new w1 t (cellsB (nought N)).toArray
 have h2 := hb.over (o := 0) (m := s) (by rw [nought_len]; omega)
 rw [patch_all (by rw [nought_len, hs])] at h2
 refine ⟨_, rfl, h2, fun j v hv => ?_, Fr.setCells (.inr (Nat.le_refl _)) ((Fr.refl _ w1).alloc _), hb.there (by simp [cellsB_len, nought_len, hs])⟩
 rw [h2.cell, Nat.zero_add]
 simpa using hv
set_option maxRecDepth 100000 in
theorem pageLen : Tryz.prog.arrayLen 50 = 512 := by kernel_rfl
set_option maxRecDepth 100000 in
theorem pageSz (w : World) : (sizeOf (Tryz.prog.elem 50)).run Tryz.prog w = .ok 1 w := by go_simp
set_option maxRecDepth 100000 in
theorem addr_add (P o n : Nat) : (⟨P, o, none⟩ : Addr).add n = ⟨P, o + n, none⟩ := by unfold Addr.add; split <;> simp_all
set_option maxRecDepth 100000 in
theorem page_from (P : Nat) {z : Int} {o : Nat} (hz : z = (o : Int)) (ho : o < 512) (W : World) :
 (Instr.sliceAt 50 (.pointer (some ⟨P, 0, none⟩)) (some (.int .i64 z)) none none).run Tryz.prog W = .ok (.slice (some ⟨P, o, none⟩) (512 - o) (512 - o)) W := by
 rw [run_sliceAt_array_l W 50 _ (by kernel_rfl) .i64 z (by omega) (by rw [pageLen]; omega), pageSz]
 have e : z.toNat = o := by omega
 simp [Result.andThen, slicedAt, pageLen, e, addr_add]
 intro hh; omega
set_option maxRecDepth 100000 in
theorem infoPgS : (Tryz.prog.info? 50).map (·.size) = some 512 := by kernel_rfl
set_option maxRecDepth 100000 in
theorem pagesW_split {z : Nat} {f : Nat → List UInt8} {l : List Nat} {k n i : Nat} (h : l[k]? = some n) : ∃ rest, pagesW z f l = (pagesW z f (l.take k) ++ (pageW z n (f n)).take i) ++ rest := by
 have h1 : l = l.take k ++ (n :: l.drop (k + 1)) := by
  obtain ⟨h2, h3⟩ := List.getElem?_eq_some_iff.1 h
  have h4 : l.drop k = n :: l.drop (k + 1) := by rw [List.drop_eq_getElem_cons h2, h3]
  rw [← h4, List.take_append_drop]
 refine ⟨(pageW z n (f n)).drop i ++ pagesW z f (l.drop (k + 1)), ?_⟩
 have h2 : pagesW z f l = pagesW z f (l.take k) ++ (pageW z n (f n) ++ pagesW z f (l.drop (k + 1))) := by
  conv => lhs; rw [h1]
  simp [pagesW]
 rw [h2, List.append_assoc, ← List.append_assoc ((pageW z n (f n)).take i), List.take_append_drop]
set_option maxRecDepth 100000 in
set_option maxHeartbeats 8000000 in
theorem psettle_any {w : World} {B g z M N : Nat} {P : Nat → Prop} {d : DS} {f : Nat → List UInt8} (h : DAt w B P g d) (hm : PMap w M N f) (hM : ¬ P M) (hN : N ≤ 2000) (hz : z ≤ 4000) (hfit : 1 + z + 4 * N ≤ d.rd.length) (hvs : ∀ j, (d.vs j).length ≤ 9000) :
 Calls Tryz.prog 58 #[.pointer (some ⟨g, 0, none⟩), .int .i64 z, .map (some M)] w fun e w' =>
  e = .returned (.int .i64 (if (d.puts (pagesW z f (openF f N))).alive then 0 else 10)) ∧ (∃ P', DAt w' B P' g (d.puts (pagesW z f (openF f N))).flushed ∧ ∀ b, P' b → P b ∨ w.heap.size ≤ b) ∧ Fr P w w' := by
 have HNU := Lib.hid (numbers_any hm (by omega))
 obtain ⟨l, hl⟩ : ∃ l, l = openF f N := ⟨_, rfl⟩
 have hrise := openF_rising f N
 have hmem : ∀ n ∈ l, n < N ∧ f n ≠ [] ∧ (f n).length = 512 := fun n hn => by
  rw [hl] at hn
  have h1 := openF_mem.1 hn
  exact ⟨h1.1, h1.2, (hm.some_lt h1.2).2⟩
 have hlm : l.length ≤ N := by
  have : l.length ≤ (List.range N).length := by rw [hl]; exact List.length_filter_le _ _
  rwa [List.length_range] at this
 rw [← hl] at HNU hrise ⊢
 obtain ⟨r, hr⟩ : ∃ r : Int, r = if (d.puts (pagesW z f l)).alive then 0 else 10 := ⟨_, rfl⟩
 rw [← hr]
 have HRR := Lib.hid hr
 clear hr
 have H0 := Lib.hid (And.intro h (And.intro hm (And.intro hM (And.intro hfit (And.intro hvs (And.intro hrise hmem))))))
 clear h hm hM hfit hvs hl hrise hmem
 go_enter Tryz.func58, Tryz.ntmps58
 go_wp2_with fail
 refine HNU.out.mono ?_
 rintro e w1 ⟨v, rfl, hrow, f1⟩
 have hob : ∀ b, v.ownBlock = some b → w.heap.size ≤ b := fun b hb => own_low hrow hb
 have hzl : (asZ l).length = l.length := by simp
 rw [← hzl] at hrow
 obtain ⟨Av, cv, hv, hvl, hvc⟩ := IntsAt.own hrow
 subst hv
 obtain ⟨m, hm⟩ : ∃ m, m = l.length := ⟨_, rfl⟩
 rw [hzl, ← hm] at hvl hvc ⊢
 have hm9 : m ≤ 9223372036854775807 := by omega
 have H1 := Lib.hid (And.intro hm (And.intro hvc (And.intro hob f1)))
 have hd1 := H0.out.1.new f1
 clear hrow hob hzl hvl hvc hm f1 HNU
 go_wp2_with fail
 go_loopw [16] (fun x wr => ∃ k : Nat, x = .int .i64 k ∧ k ≤ m ∧ Hid (∃ Pk, DAt wr B Pk g (d.puts (pagesW z f (l.take k))) ∧ ∀ b, Pk b → P b ∨ w1.heap.size ≤ b) ∧ Hid (Fr P w1 wr)) (fun x _ => m - (intOf x).toNat)
 case atStart => exact ⟨0, rfl, Nat.zero_le _, Lib.hid ⟨P, hd1, fun b q => .inl q⟩, Lib.hid (Fr.refl _ _)⟩
 case round =>
  obtain ⟨k, rfl, hk, HDe, HF⟩ := hrel
  obtain ⟨Pk, hdk, hpk⟩ := HDe.out
  clear HDe hd1
  by_cases hlt : k < m
  · obtain ⟨n, hn⟩ : ∃ n, l[k]? = some n := ⟨_, List.getElem?_eq_getElem (by have := H1.out.1; omega)⟩
    obtain ⟨hnN, hn0, hn5⟩ := H0.out.2.2.2.2.2.2 n (List.mem_of_getElem? hn)
    obtain ⟨bo, oo, hao, hoc⟩ := H1.out.2.1 (by omega)
    subst hao
    have hbo := H1.out.2.2.1 bo rfl
    have hco : wr.cell? ⟨bo, oo + k, none⟩ = some (.int .i64 (n : Int)) := by
     have h1 := hoc k (n : Int) (by simp [hn])
     exact (HF.out.cell (World.block_lt_of_cell? w1 _ h1) (fun q => by have := (H0.out.1.2 bo q).2; omega)).trans h1
    have hMk : ¬ P M := H0.out.2.2.1
    have hpm := (H0.out.2.1.keep H1.out.2.2.2 (fun q => q)).keep HF.out hMk
    obtain ⟨x, hx⟩ : ∃ x, x = f n := ⟨_, rfl⟩
    have hpo : pgOr (f n) = x := by rw [hx]; unfold pgOr; rw [if_neg hn0]
    rw [← hx] at hn5
    have HN := Lib.hid (And.intro hn (And.intro hnN (And.intro hn5 hx)))
    have HPM := Lib.hid (And.intro hpm hpo)
    have HD := Lib.hid (And.intro hdk hpk)
    have hk0 : (0 : Int) ≤ (k : Int) := by omega
    have hkn : (k : Int) < (m : Int) := by omega
    clear hn hnN hn0 hoc hbo hMk hpm hdk hpk hpo hx hlt
    obtain ⟨Wp, hWp, hbp, hrp, fp, thp⟩ := put_arr wr 50 Tryz.zeroCells50 512 zeroPgCells x HN.out.2.2.1
    have HWP := Lib.hid (And.intro hWp thp)
    have hbpl : wr.heap.size < Wp.heap.size := hbp.lt
    have HPG := Lib.hid (And.intro hbp (And.intro fp hbpl))
    clear hWp hbp hrp fp thp hbpl
    go_wp2_with (first
     | (at_lookup; refine wpList_pm_look rfl _ _ false rfl HPM.out.1 (by omega) rfl rfl (by have := HN.out.2.1; omega) ?_; rw [HPM.out.2]; simp only [Bool.false_eq_true, if_false])
     | (refine wpList_store_mid rfl 50 _ _ rfl wr.heap.size 0 (cellsB x).toArray rfl rfl HWP.out.2 (by rw [infoPgS]; simp [cellsB_len, HN.out.2.2.1]) (all_oneCell_toArray (cellsB_one _)) ?_))
    rw [← HWP.out.1]
    clear hco
    obtain ⟨bp, hbpe⟩ : ∃ bp, bp = wr.heap.size := ⟨_, rfl⟩
    have HBP := Lib.hid hbpe
    rw [← hbpe] at HPG ⊢
    have hstart : ∃ Pi, DAt Wp B Pi g (d.puts (pagesW z f (l.take k) ++ (pageW z n x).take 0)) ∧ ∀ b, Pi b → (P b ∨ w1.heap.size ≤ b) ∧ b ≠ bp := ⟨Pk, by rw [List.take_zero, List.append_nil]; exact HD.out.1.new HPG.out.2.1, fun b q => ⟨HD.out.2 b q, fun e => by have h1 := (HD.out.1.2 b q).2; have h2 := HBP.out; omega⟩⟩
    have hbpw : w1.heap.size ≤ bp := by have := HF.out.size; have h2 := HBP.out; omega
    have HBW := Lib.hid hbpw
    clear hbpe hbpw
    generalize wr = wo at *
    go_loopw [23] (fun y wi => ∃ i : Nat, y = .int .i64 i ∧ i ≤ 4 ∧ Hid (∃ Pi, DAt wi B Pi g (d.puts (pagesW z f (l.take k) ++ (pageW z n x).take i)) ∧ ∀ b, Pi b → (P b ∨ w1.heap.size ≤ b) ∧ b ≠ bp) ∧ Hid (Blk wi bp 50 (cellsB x).toArray) ∧ Hid (Fr P w1 wi)) (fun y _ => 4 - (intOf y).toNat)
    case atStart => exact ⟨0, rfl, Nat.zero_le _, Lib.hid hstart, Lib.hid HPG.out.1, Lib.hid (HF.out.trans HPG.out.2.1 (fun _ _ q => q.elim))⟩
    case round =>
     obtain ⟨i, rfl, hi4, HDi, HBi, HFi⟩ := hrel
     obtain ⟨Pi, hdi, hpi⟩ := HDi.out
     clear HDi hstart
     by_cases hil : i < 4
     · obtain ⟨s, hs⟩ : ∃ s, s = (x.drop (i * 128)).take 128 := ⟨_, rfl⟩
       have hsl : s.length = 128 := by rw [hs, List.length_take, List.length_drop, HN.out.2.2.1]; omega
       have hrg : wr.rangeAt bp (i * 128) (cellsB s) := fun j v hv => by
        rw [HBi.out.cell]
        have hv2 : (((cellsB x).drop (i * 128)).take 128)[j]? = some v := by
         rw [hs] at hv
         simpa [cellsB, List.map_take, List.map_drop] using hv
        rw [List.getElem?_take] at hv2
        split at hv2
        · rw [List.getElem?_drop] at hv2
          simpa using hv2
        · cases hv2
       have hw1 : IntKind.i64.wrap ((i : Int) * 128) = (i : Int) * 128 := by simp [IntKind.wrap, IntKind.signed, IntKind.bits]; omega
       obtain ⟨Ws, hWs, hbs, hrs, fs, ths⟩ := put_arr wr 83 Tryz.zeroCells83 128 zeroSecCells s hsl
       have HWS := Lib.hid (And.intro hWs ths)
       have HRG := Lib.hid (And.intro hrg hsl)
       have HSB := Lib.hid (And.intro hbs (And.intro fs hbs.lt))
       have HDI := Lib.hid (And.intro hdi hpi)
       have hpf := page_from bp (z := (i : Int) * 128) (o := i * 128) (by omega) (by omega)
       have hat : ∀ W, (Instr.arrayAt 83 (.slice (some ⟨bp, i * 128, none⟩) (512 - i * 128) (512 - i * 128))).run Tryz.prog W = .ok (.pointer (some ⟨bp, i * 128, none⟩)) W := fun W => by
        have h9 : ¬ (512 - i * 128) < 128 := by omega
        simp [Instr.arrayAt, run_underlying Tryz.underlying83, h9]
       have hii0 : (0 : Int) ≤ (i : Int) := by omega
       have hii4 : (i : Int) < 4 := by omega
       have HS5 := Lib.hid hs
       clear hrg hWs hbs hrs fs ths hdi hpi hsl hs
       go_wp2_with (first
        | (refine wpList_load_mid rfl 83 _ rfl bp (i * 128) rfl (cellsB s) _ HRG.out.1 Tryz.underlying83 rfl (by rw [infoSector, cellsB_len, HRG.out.2]) ?_)
        | (refine wpList_store_mid rfl 83 _ _ rfl wr.heap.size 0 (cellsB s).toArray rfl rfl HWS.out.2 (by rw [infoSector]; simp [cellsB_len, HRG.out.2]) (all_oneCell_toArray (cellsB_one _)) ?_))
       rw [← HWS.out.1]
       obtain ⟨dd, hdd⟩ : ∃ dd, dd = d.puts (pagesW z f (l.take k) ++ (pageW z n x).take i) := ⟨_, rfl⟩
       rw [← hdd] at HDI
       obtain ⟨ix, hix⟩ : ∃ ix, ix = 1 + z + 4 * n + i := ⟨_, rfl⟩
       have hixl : ix < dd.rd.length := by
        rw [hdd, puts_len, hix]
        have h1 := HN.out.2.1
        have h2 := H0.out.2.2.2.1
        omega
       have hvx : (dd.vs ix).length ≤ 10000 := by
        have h1 := fresh_at (d := d) (z := z) (f := f) H0.out.2.2.2.2.2.1 (i := i) HN.out.1
        rw [← HN.out.2.2.2, ← hdd, ← hix] at h1
        rw [h1]
        have := H0.out.2.2.2.2.1 ix
        omega
       have hwi : IntKind.i64.wrap (1 + (z : Int) + 4 * (n : Int) + (i : Int)) = (ix : Int) := by
        have h1 := HN.out.2.1
        rw [hix]
        simp [IntKind.wrap, IntKind.signed, IntKind.bits]
        omega
       have hsw := HSB.out.2.1
       have hdw : DAt Ws.drew B Pi g dd := HDI.out.1.new hsw.drew
       have hsx : ∀ w'', Fr (fun b => Pi b) Ws w'' → w''.rangeAt wr.heap.size 0 (cellsB s) := fun w'' ff j v hv => by
        have h1 := (HSB.out.1.keep ff (fun q => by have := (HDI.out.1.2 _ q).2; omega)).cell j
        rw [Nat.zero_add]
        rw [h1]
        simpa using hv
       have HSX := Lib.hid hsx
       have HWR := Lib.hid (awrite_any hdw hixl HRG.out.2 hvx)
       have HDD := Lib.hid (And.intro hdd (And.intro hix (And.intro HS5.out hsw)))
       clear hdd hix hixl hvx hsw hdw hsx hpf hat hw1
       (try simp only [Act.put, List.setIfInBounds_toArray, List.set_cons_zero, List.set_cons_succ])
       refine wp_region_held_drew (S := fun w' => Fr (fun b => Pi b) Ws w') (by kernel_rfl) ((Fr.refl _ _).drew) (fun hS0 => ?_)
       refine anyH_tk 0 31 (.pointer (some ⟨g, 0, none⟩)) rfl rfl (.inl ⟨by rfl, fun w'' hS => by go_simp⟩) hS0 ?_
       (simp only [sA, sB, sC])
       refine anyH_tk 1 32 (.int .i64 (z : Nat)) rfl rfl (.inl ⟨by rfl, fun w'' hS => by go_simp⟩) hS0 ?_
       (simp only [sA, sB, sC])
       refine anyH_tk 2 33 (.int .i64 (n : Nat)) rfl rfl (.inl ⟨by rfl, fun w'' hS => by go_simp⟩) hS0 ?_
       (simp only [sA, sB, sC])
       refine anyH_tk 4 35 (.int .i64 (i : Nat)) rfl rfl (.inl ⟨by rfl, fun w'' hS => by go_simp⟩) hS0 ?_
       (simp only [sA, sB, sC])
       refine anyH_tk 6 37 (av s) rfl rfl (.inl ⟨by rfl, fun w'' hS => run_load_mid 83 _ rfl wr.heap.size 0 rfl (cellsB s) _ (HSX.out w'' hS) Tryz.underlying83 rfl (by rw [infoSector, cellsB_len, HRG.out.2])⟩) hS0 ?_
       (simp only [sA, sB, sC])
       refine anyH_enter 3 34 (f := 61) (args := #[(.int .i64 (z : Nat)), (.int .i64 (n : Nat))]) (by kernel_rfl) rfl rfl (by rfl) (by go_simp) ?_
       refine (placeof_any Ws.drew z n (by omega) (by have := HN.out.2.1; omega)).mono ?_
       rintro en wv ⟨rfl, rfl⟩
       refine ⟨_, rfl, hS0, ?_⟩
       (simp only [sA, sB, sC])
       refine anyH_tk 5 36 (.int .i64 (ix : Nat)) rfl rfl (.inl ⟨by rfl, fun w'' hS => by go_simp⟩) hS0 ?_
       (simp only [sA, sB, sC])
       refine anyH_enter 7 38 (f := 89) (args := #[(.pointer (some ⟨g, 0, none⟩)), .int .i64 (ix : Nat), av s]) (by kernel_rfl) rfl rfl (by rfl) (by go_simp) ?_
       refine HWR.out.mono ?_
       rintro en w9 ⟨rfl, ⟨P9, hd9, hp9⟩, f9⟩
       refine ⟨_, rfl, ((Fr.refl (fun b => Pi b) Ws).drew).trans f9 (fun _ _ q => q), ?_⟩
       (simp only [sA, sB, sC])
       have hS0 := ((Fr.refl (fun b => Pi b) Ws).drew).trans f9 (fun _ _ q => q)
       obtain ⟨r9, hr9⟩ : ∃ r9 : Int, r9 = if dd.alive = true then 0 else 10 := ⟨_, rfl⟩
       rw [← hr9]
       refine anyH_tk 8 12 (.int .i64 r9) rfl rfl (.inl ⟨by rfl, fun w'' hS => by go_simp⟩) hS0 ?_
       (simp only [sA, sB, sC])
       refine wpAnyH_done (by kernel_rfl) ?_ _
       rw [hr9]
       have H9 := Lib.hid (And.intro hd9 (And.intro hp9 f9))
       clear hS0 hd9 hp9 f9 hr9 HWR hwi
       cases ha : dd.alive with
       | false =>
         simp only [Bool.false_eq_true, if_false]
         obtain ⟨rest, hrest⟩ := pagesW_split (z := z) (f := f) (i := i) HN.out.1
         rw [← HN.out.2.2.2] at hrest
         have hcut := puts_cut (d := d) (ps := pagesW z f (l.take k) ++ (pageW z n x).take i) (qs := rest) (by rw [← HDD.out.1]; exact ha)
         rw [← hrest, ← HDD.out.1] at hcut
         have hwd : dd.write ix s = dd.step := by unfold DS.write; rw [if_neg (by rw [ha]; decide)]
         have hd9 := H9.out.1
         rw [hwd, ← hcut.2] at hd9
         have hfin : Fr P w w9 := ((((H1.out.2.2.2.mono (fun _ _ q => q.elim)).trans HFi.out (fun _ _ q => q)).trans HDD.out.2.2.2 (fun _ _ q => q.elim)).drew).trans H9.out.2.2 (fun b hb q => by
          rcases (HDI.out.2 b q).1 with y | y
          · exact y
          · have := H1.out.2.2.2.size
            omega)
         have HFIN := Lib.hid (And.intro hd9 (And.intro hcut.1 (And.intro hfin (show ∀ b, P9 b → P b ∨ w.heap.size ≤ b from fun b q => by
          have hw1 := H1.out.2.2.2.size
          rcases H9.out.2.1 b q with y | y
          · rcases (HDI.out.2 b y).1 with y' | y'
            · exact .inl y'
            · exact .inr (by omega)
          · have h2 := HFi.out.size
            have h3 := HDD.out.2.2.2.size
            have h4 : Ws.drew.heap.size = Ws.heap.size := rfl
            exact .inr (by omega)))))
         clear hrest hcut hwd hd9 hfin ha
         go_wp2_with fail
         go_ret
         exact ⟨by rw [HRR.out, HFIN.out.2.1]; rfl, ⟨P9, HFIN.out.1, HFIN.out.2.2.2⟩, HFIN.out.2.2.1⟩
       | true =>
         simp only [if_true]
         have hnx : dd.write ix s = d.puts (pagesW z f (l.take k) ++ (pageW z n x).take (i + 1)) := by
          rw [pageW_take (by omega), ← List.append_assoc, puts_snoc, ← HDD.out.1, ← HDD.out.2.1, ← HDD.out.2.2.1]
         have hd9 := H9.out.1
         rw [hnx] at hd9
         have hbp9 : Blk w9 bp 50 (cellsB x).toArray := ((HBi.out.keep HDD.out.2.2.2 (fun q => q)).keep ((Fr.refl (fun _ => False) Ws).drew) (fun q => q)).keep H9.out.2.2 (fun q => (HDI.out.2 bp q).2 rfl)
         have hf9 : Fr P w1 w9 := ((HFi.out.trans HDD.out.2.2.2 (fun _ _ q => q.elim)).drew).trans H9.out.2.2 (fun b hb q => by
          rcases (HDI.out.2 b q).1 with y | y
          · exact y
          · omega)
         have HNX := Lib.hid (And.intro hd9 (And.intro hbp9 (And.intro hf9 (show ∀ b, P9 b → (P b ∨ w1.heap.size ≤ b) ∧ b ≠ bp from fun b q => by
          rcases H9.out.2.1 b q with y | y
          · exact HDI.out.2 b y
          · have h2 := HFi.out.size
            have h3 := HDD.out.2.2.2.size
            have h4 : Ws.drew.heap.size = Ws.heap.size := rfl
            have h5 := HBi.out.lt
            exact ⟨.inr (by omega), by omega⟩))))
         clear hnx hd9 hbp9 hf9 ha
         go_wp2_with fail
         refine ⟨⟨i + 1, by norm_cast, by omega, Lib.hid ⟨P9, HNX.out.1, HNX.out.2.2.2⟩, Lib.hid HNX.out.2.1, Lib.hid HNX.out.2.2.1⟩, ?_⟩
         simp only [intOf]
         omega
     · have hi4e : i = 4 := by omega
       subst hi4e
       have hpk1 : pagesW z f (l.take (k + 1)) = pagesW z f (l.take k) ++ (pageW z n x).take 4 := by
        rw [pagesW_take HN.out.1, HN.out.2.2.2, show (pageW z n (f n)).take 4 = pageW z n (f n) from List.take_of_length_le (by rw [pageW_len]; omega)]
       rw [← hpk1] at hdi
       have HNX := Lib.hid (And.intro hdi hpi)
       clear hpk1 hdi hpi hil
       go_wp2_with fail
       refine ⟨⟨k + 1, by norm_cast, by omega, Lib.hid ⟨Pi, HNX.out.1, fun b q => (HNX.out.2 b q).1⟩, Lib.hid HFi.out⟩, ?_⟩
       simp only [intOf]
       omega
  · have hkm : m = k := by omega
    subst hkm
    rw [List.take_of_length_le (by have := H1.out.1; omega)] at hdk
    have HFL := Lib.hid (aflush_any hdk)
    rw [← HRR.out] at HFL
    have HP := Lib.hid hpk
    clear hdk hpk hlt
    go_wp2_with fail
    refine HFL.out.mono ?_
    rintro e w2 ⟨rfl, hd2, f2⟩
    have hfin : Fr P w w2 := ((H1.out.2.2.2.mono (fun _ _ q => q.elim)).trans HF.out (fun _ _ q => q)).trans f2 (fun b hb q => by
     rcases HP.out b q with y | y
     · exact y
     · have := H1.out.2.2.2.size
       omega)
    have H2 := Lib.hid (And.intro hd2 (And.intro hfin (show ∀ b, Pk b → P b ∨ w.heap.size ≤ b from fun b q => by
     have := H1.out.2.2.2.size
     rcases HP.out b q with y | y
     · exact .inl y
     · exact .inr (by omega))))
    clear hd2 f2 hfin
    go_wp2_with fail
    go_ret
    exact ⟨rfl, ⟨Pk, H2.out.1, H2.out.2.2⟩, H2.out.2.1⟩
end Go.Proofs.YtcnlgbjkjlbmbaaGreat


