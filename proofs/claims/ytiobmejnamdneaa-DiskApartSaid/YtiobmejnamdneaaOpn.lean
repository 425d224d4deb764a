/- The program's disk: Open. -/
import Derived.Test.YtiobmejnamdneaaWri
import Derived.Shelf.SlIterI.Nil
import Derived.Shelf.SortM.Plain
import Derived.Shelf.SortM.SortNone
import Derived.Ground.GgzProg
import Derived.Ground.SlgmProg
import Derived.Test.YtiobmejnamdneaaLpl
namespace Go.Proofs.Ytiobmejnamdneaa
open Go.RowKit Go.Maps Go.Sort Go.Shelf

/-- slices.Sort's two contracts, at the fence that asks nothing. -/
theorem sortsA (m : Nat) : AnyZI.SortsIn Try.prog Try.sortedA_ren Fence.wide m :=
  ⟨fun blk off cap ss W hH hblk hsz => callsIn_wide.2 (AnyM.slices_Sort_int Try.sortA blk off cap ss W hH hblk hsz),
   fun p cap W => callsIn_wide.2 (AnyM.slices_Sort_int_none Try.sortA p cap W)⟩

/-- The open sectors, rising. -/
def DS.openL (d : DS) : List Nat := (List.range d.rd.length).filter (fun i => !(d.vs i).isEmpty)
theorem DS.openL_mem {d : DS} {i : Nat} : i ∈ d.openL ↔ i < d.rd.length ∧ d.vs i ≠ [] := by
  simp [DS.openL]
abbrev asZ (l : List Nat) : List Int := l.map fun (i : Nat) => (i : Int)
section
variable {w : World} {F : Nat → Prop} {g R M : Nat} {D : DataW Value} {val : Nat → Value} {d : DS}
theorem DiskW.keysP (h : DiskW w F g R M D val d) : (intKeys D).Perm (asZ d.openL) := by
  obtain ⟨es, rfl, hp0, hlit⟩ := h.map.canon kyT
  have hp := Maps.apart_of_rising hp0
  have hm : ∀ p ∈ es, ∃ i, p.1 = ky i ∧ i < d.rd.length := fun p hpm => by
    refine h.keys p.1 ?_
    rw [Maps.has_eq, List.any_eq_true]
    exact ⟨p, hpm, WideAt.sameKey_self (hlit p hpm)⟩
  have hio : ∀ i : Nat, Go.intOf (ky i) = (i : Int) := fun i => rfl
  refine (List.perm_ext_iff_of_nodup ?_ ?_).2 fun z => ?_
  · show (es.map fun p => Go.intOf p.1).Nodup
    rw [List.Nodup, List.pairwise_map]
    refine hp.imp_of_mem fun {p q} hp1 hq1 hne e => hne ?_
    obtain ⟨i, hi, _⟩ := hm p hp1
    obtain ⟨j, hj, _⟩ := hm q hq1
    rw [hi, hj, hio, hio] at e
    have : i = j := by omega
    rw [hi, hj, this]
  · rw [List.Nodup, List.pairwise_map]
    have : d.openL.Nodup := List.nodup_range.filter _
    exact this.imp (fun hne e => hne (by omega))
  · show z ∈ (es.map fun p => Go.intOf p.1) ↔ _
    simp only [List.mem_map]
    constructor
    · rintro ⟨p, hpm, rfl⟩
      obtain ⟨i, hi, hlt⟩ := hm p hpm
      refine ⟨i, DS.openL_mem.2 ⟨hlt, ?_⟩, by rw [hi, hio]⟩
      refine (h.opn i hlt).1 ?_
      rw [Maps.has_eq, List.any_eq_true, ← hi]
      exact ⟨p, hpm, WideAt.sameKey_self (hlit p hpm)⟩
    · rintro ⟨i, hi, rfl⟩
      obtain ⟨hlt, hv⟩ := DS.openL_mem.1 hi
      have := (h.opn i hlt).2 hv
      rw [Maps.has_eq, List.any_eq_true] at this
      obtain ⟨p, hpm, hk⟩ := this
      exact ⟨p, hpm, by rw [WideAt.sameKey_eq hk, hio]⟩
theorem openL_sorted (d : DS) : (asZ d.openL).Pairwise (fun a b => a ≤ b) := by
  rw [List.pairwise_map]
  have : d.openL.Pairwise (fun a b => a < b) := List.pairwise_lt_range.filter _
  exact this.imp (fun h => by omega)
theorem DiskW.sorted (h : DiskW w F g R M D val d) {ss : List Int} (hp : ss.Perm (intKeys D)) : ss.mergeSort (fun x y => decide (x ≤ y)) = asZ d.openL := by
  have h1 := List.mergeSort_perm ss (fun x y => decide (x ≤ y))
  have h2 := List.pairwise_mergeSort (le := fun x y : Int => decide (x ≤ y)) (fun a b c hab hbc => by simp at *; omega) (fun a b => by simp; omega) ss
  refine List.Perm.eq_of_pairwise (le := fun a b : Int => a ≤ b) (fun a b _ _ hab hba => by omega) (h2.imp (fun hab => by simpa using hab)) (openL_sorted d) ((h1.trans hp).trans h.keysP)

set_option maxHeartbeats 1000000 in
theorem open_any (h : DiskW w F g R M D val d) : Calls Try.prog 31 #[.pointer (some ⟨g, 0, none⟩)] w fun e w' => ∃ v, e = .returned v ∧ w'.ownsRow w.heap.size 3 1 v d.openL.length ((asZ d.openL).map encZ) ∧ Fr (fun _ => False) w w' := by
  have hlen : (asZ d.openL).length = d.openL.length := by simp
  refine (callsIn_wide (n := 6)).1 ?_
  have hown := h.map
  have hbl := hown.lt
  have hmax : Maps.size D ≤ maxLen := by have := h.size_le; have := h.n1; simp only [maxLen]; omega
  have hbytes : Maps.size D * 8 ≤ 140737488355328 := by have := h.size_le; have := h.n1; omega
  have hseq : SeqGives Fence.wide 2 Try.prog 44 #[.pointer (some ⟨w.heap.size, 0, none⟩)] encZ (fun ss => ss.Perm (intKeys D)) (Maps.size D) (w.alloc (.cells #[.map (some M)] 61)) :=
    AnyZI.keys_gives (ρ := Try.keysA_ren) { Try.keysA with } Fence.wide _ trivial rfl (by omega) w.heap.size M (Maps.size D) D _ (by simp) (by simp) (by
      obtain ⟨es, clock, hb, Ft, hs, hD⟩ := hown
      exact ⟨es, clock, (Below.heap_alloc _ _ M hbl).trans hb, Ft, hs, hD⟩)
  have cK : ∀ mb W, CallsIn Fence.wide 5 Try.prog 40 #[.map mb] W fun e w' => e = .returned (.func (.func 44) #[] #[.pointer (some ⟨W.heap.size, 0, none⟩)]) ∧ w' = W.alloc (.cells #[.map mb] 61) := fun mb W => AnyZI.keys_in Try.keysA Fence.wide 5 trivial rfl mb W
  have cS := AnyZI.sorted_in Try.sortedA Fence.wide 5 trivial trivial trivial trivial rfl (by omega) (sortsA _) (enters_of Try.func43 (by kernel_rfl) rfl) 44 #[.pointer (some ⟨w.heap.size, 0, none⟩)] trivial (enters_of Try.func44 (by kernel_rfl) rfl) _ _ hmax hbytes _ hseq
  change CallsIn _ _ Try.prog 39 _ _ _ at cS
  have hfK : Fence.wide.fn 40 := trivial
  have hfS : Fence.wide.fn 39 := trivial
  have hfN : Fence.wide.fn 27 := trivial
  have cN : CallsIn Fence.wide 5 Try.prog 27 #[.pointer (some ⟨g, 0, none⟩)] w fun e w' => e = .returned (.bool false) ∧ w = w' := callsIn_wide.2 (by
    have := none_any h.blk
    rwa [decide_eq_false (by have := h.n0; omega)] at this)
  obtain ⟨c0, c1, c2, c3, c4⟩ := dsk_cells h.blk
  have HD := Lib.hid h
  clear h hown hbl hmax hbytes hseq
  refine callsIn_of_wp Try.func31 rfl trivial ?_ rfl
  simp only [Try.ntmps31, List.size_toArray, List.length_cons, List.length_nil, Nat.reduceAdd, Nat.reduceSub, Array.replicate_succ, Array.replicate_zero, List.push_toArray, List.append_toArray, List.nil_append, List.cons_append]
  gi_wp2_with (first
    | (gi_at_call 27; refine cN.mono ?_; rintro e w' ⟨rfl, rfl⟩)
    | (gi_at_call 40; refine (cK _ _).mono ?_; rintro e w' ⟨rfl, rfl⟩)
    | (gi_at_call 39; refine cS.mono ?_; rintro e w' ⟨v, ss, rfl, hS, hrow, hnil, hb⟩))
  go_ret
  have hso := HD.out.sorted hS
  have hsl : ss.length = d.openL.length := by rw [← hlen, ← hso]; simp
  have hrow' := ownsRow_base_a hrow (by simp : w.heap.size ≤ _)
  rw [hso, hsl] at hrow'
  exact ⟨v, rfl, hrow', Fr.of_below (((Below.refl _ w).alloc (Nat.le_refl _) _).trans (hb.mono (by simp)))⟩
end
end Go.Proofs.Ytiobmejnamdneaa
