/- The program's disk: lasting. -/
import Derived.Test.YtiobmejnamdneaaCrp
namespace Go.Proofs.Ytiobmejnamdneaa
open Go.RowKit Go.Maps

/-- What lasts of a sector. -/
def DS.last (d : DS) (k : Nat) : List UInt8 := match d.vs k with
  | [] => d.rd.getD k []
  | x :: _ => x
section
variable {w : World} {F : Nat → Prop} {g R M : Nat} {D : DataW Value} {val : Nat → Value} {d : DS}
theorem DiskW.last_len (h : DiskW w F g R M D val d) {k : Nat} (hk : k < d.rd.length) : (d.last k).length = 128 := by
  unfold DS.last
  cases hv : d.vs k with
  | nil =>
    rw [List.getD_eq_getElem?_getD, List.getElem?_eq_getElem hk]
    exact h.hl _ (List.getElem_mem hk)
  | cons x xs => exact h.all k hk x (by rw [hv]; simp)

set_option maxRecDepth 100000 in
set_option maxHeartbeats 4000000 in
theorem dlasting_any (h : DiskW w F g R M D val d) {k : Nat} (hk : k < d.rd.length) :
    Calls Try.prog 30 #[.pointer (some ⟨g, 0, none⟩), .int .i64 k] w fun e w' => e = .returned (av (d.last k)) ∧ Fr (fun _ => False) w w' := by
  obtain ⟨s, hs⟩ : ∃ s, s = d.last k := ⟨_, rfl⟩
  have HL : Hid (s.length = 128) := Lib.hid (hs ▸ h.last_len hk)
  rw [← hs]
  have hb0 := Blk.new w 31 (cellsB (nought 128)).toArray
  have hf0 := (Fr.refl (fun _ => False) w).alloc (.cells (cellsB (nought 128)).toArray 31)
  have h1 := h.keep hf0 (fun _ _ q => q)
  have HKY := Lib.hid (ky_of (i := k) (by have := h.n1; omega))
  have hhas := h.opn k hk
  have HB := Lib.hid (And.intro hb0 hf0)
  obtain ⟨c0, c1, c2, c3, c4⟩ := dsk_cells h1.blk
  have hmap := h1.map
  by_cases hv0 : d.vs k = []
  · have hh : Maps.has D (ky k) = false := by
      cases hb : Maps.has D (ky k) with
      | false => rfl
      | true => exact absurd hv0 (hhas.1 hb)
    have hx : d.rd[k]? = some s := by
      rw [hs]
      unfold DS.last
      rw [hv0]
      simp [hk]
    have hsx := h1.secs k s hx
    rw [Nat.zero_add] at hsx
    have HX := Lib.hid hsx.2
    have hi0 : (0 : Int) ≤ (k : Int) := by omega
    have hi1 : (k : Int) < (d.rd.length : Int) := by omega
    clear hhas hv0 hsx hx hs h h1 hb0 hf0 hk
    go_enter Try.func30, Try.ntmps30
    go_wp2_with (first
      | (refine wpList_zero rfl 31 rfl zeroSector ?_)
      | (at_lookup; refine wpList_lookup_own_ok _ rfl _ _ 61 rfl 3 38 kyT Try.underlying61 HV (zeroSl _) (.held (.slice none 0 0)) [] rfl M _ D rfl hmap _ _ rfl HKY.out ?_; intro v0 ps hv; rw [hh])
      | (refine wpList_load_mid rfl 31 _ rfl R (k * 128) rfl (cellsB s) _ HX.out Try.underlying31 rfl (by rw [infoSector, cellsB_len, HL.out]) ?_)
      | (refine wpList_store_mid rfl 31 _ _ rfl w.heap.size 0 (cellsB s).toArray rfl rfl (HB.out.1.there (by simp [cellsB_len, nought_len, HL.out])) (by rw [infoSector]; simp [cellsB_len, HL.out]) (all_oneCell_toArray (cellsB_one _)) ?_))
    refine bodyPost_ret (results_cell_row rfl _ _ w.heap.size 31 (cellsB s).toArray (0, 0) _ rfl ?_ Try.underlying31 rfl (by rw [infoSector]; simp [cellsB_len, HL.out])) rfl ?_
    · have := HB.out.1.over (o := 0) (m := s) (by rw [nought_len, HL.out]; omega)
      rw [patch_all (by rw [nought_len, HL.out])] at this
      exact this
    · exact ⟨rfl, Fr.setCells (.inr (Nat.le_refl _)) HB.out.2⟩
  · have hh : Maps.has D (ky k) = true := hhas.2 hv0
    have hat := h1.at_ k hk hv0 (.held (.slice none 0 0))
    have hrow := secV_row (h1.row k hk hv0) (h1.all k hk)
    obtain ⟨A, ca, hva, hn1, hn2, h3⟩ := hrow
    obtain ⟨b, off, rfl, hsec⟩ := h3 (List.length_pos_iff.2 hv0)
    have hx : (d.vs k)[0]? = some s := by
      rw [hs]
      unfold DS.last
      cases hq : d.vs k with
      | nil => exact absurd hq hv0
      | cons x xs => simp
    have hsx := (hsec 0 s hx).2
    rw [Nat.zero_mul, Nat.add_zero] at hsx
    have HX := Lib.hid hsx
    obtain ⟨n, hn⟩ : ∃ n, n = (d.vs k).length := ⟨_, rfl⟩
    have hi1 : (0 : Int) < (n : Int) := by have := List.length_pos_iff.2 hv0; omega
    rw [← hn] at hva hn1
    have HA := Lib.hid (And.intro hat hva)
    clear hhas hv0 hsx hx hs h h1 hb0 hf0 hk hat hva hn h3 hsec hn1 hn2
    go_enter Try.func30, Try.ntmps30
    go_wp2_with (first
      | (refine wpList_zero rfl 31 rfl zeroSector ?_)
      | (at_lookup; refine wpList_lookup_own_ok _ rfl _ _ 61 rfl 3 38 kyT Try.underlying61 HV (zeroSl _) (.held (.slice none 0 0)) [] rfl M _ D rfl hmap _ _ rfl HKY.out ?_; intro v0 ps hv; rw [hh]; obtain rfl : v0 = .slice (some ⟨b, off, none⟩) n ca := by (have ha := hv; rw [HA.out.1] at ha; simp only [Option.some.injEq, Prod.mk.injEq, DataW.held.injEq] at ha; rw [ha.1, HA.out.2]))
      | (refine wpList_load_mid rfl 31 _ rfl b off rfl (cellsB s) _ HX.out Try.underlying31 rfl (by rw [infoSector, cellsB_len, HL.out]) ?_)
      | (refine wpList_store_mid rfl 31 _ _ rfl w.heap.size 0 (cellsB s).toArray rfl rfl (HB.out.1.there (by simp [cellsB_len, nought_len, HL.out])) (by rw [infoSector]; simp [cellsB_len, HL.out]) (all_oneCell_toArray (cellsB_one _)) ?_))
    refine bodyPost_ret (results_cell_row rfl _ _ w.heap.size 31 (cellsB s).toArray (0, 0) _ rfl ?_ Try.underlying31 rfl (by rw [infoSector]; simp [cellsB_len, HL.out])) rfl ?_
    · have := HB.out.1.over (o := 0) (m := s) (by rw [nought_len, HL.out]; omega)
      rw [patch_all (by rw [nought_len, HL.out])] at this
      exact this
    · exact ⟨rfl, Fr.setCells (.inr (Nat.le_refl _)) HB.out.2⟩
end
end Go.Proofs.Ytiobmejnamdneaa
