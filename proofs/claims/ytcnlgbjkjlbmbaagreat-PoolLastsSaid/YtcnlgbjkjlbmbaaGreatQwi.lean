/- couponref06: without, has, insert. -/
import Derived.Test.YtcnlgbjkjlbmbaaGreatQcr
namespace Go.Proofs.YtcnlgbjkjlbmbaaGreat
open Go.RowKit

abbrev intV (z : Int) : Value := .int .i64 z
theorem intsAt_own {w : World} {base : Nat} {v : Value} {l : List Int} (h : w.ownsRow base 3 1 v l.length (l.map intV)) : IntsAt w v l := IntsAt.own h
section
variable {w : World} {v : Value} {l : List Int}
theorem IntsAt.cell (h : IntsAt w v l) {k : Nat} {z : Int} (hk : l[k]? = some z) : ∃ b off c, v = .slice (some ⟨b, off, none⟩) l.length c ∧ w.cell? ⟨b, off + k, none⟩ = some (.int .i64 z) := by
 obtain ⟨A, c, rfl, _, h2⟩ := h
 obtain ⟨b, off, rfl, h3⟩ := h2 (by have := (List.getElem?_eq_some_iff.1 hk).1; omega)
 exact ⟨b, off, c, rfl, h3 k z hk⟩
set_option maxRecDepth 100000 in
set_option maxHeartbeats 4000000 in
theorem without_any (h : IntsAt w v l) (hl : l.length ≤ 100000) (n : Int) : Calls Tryz.prog 63 #[v, .int .i64 n] w fun e w' => ∃ v', e = .returned v' ∧ w'.ownsRow w.heap.size 3 1 v' (l.filter fun z => decide (z ≠ n)).length ((l.filter fun z => decide (z ≠ n)).map intV) ∧ Fr (fun _ => False) w w' := by
 have H0 := Lib.hid h
 obtain ⟨A, c, hv, _, _⟩ := h
 obtain ⟨m, hm⟩ : ∃ m, m = l.length := ⟨_, rfl⟩
 rw [← hm] at hv hl
 subst hv
 have HM := Lib.hid hm
 clear hm
 go_enter Tryz.func63, Tryz.ntmps63
 go_wp2_with fail
 go_loopw [5, 6] (fun t x wr => ∃ k : Nat, x = .int .i64 k ∧ k ≤ m ∧ Hid (wr.ownsRow w.heap.size 3 1 t ((l.take k).filter fun z => decide (z ≠ n)).length (((l.take k).filter fun z => decide (z ≠ n)).map intV)) ∧ Hid (Fr (fun _ => False) w wr)) (fun _ x _ => m - (intOf x).toNat)
 case atStart => exact ⟨0, rfl, Nat.zero_le _, Lib.hid (World.ownsRow_nil _ _ _ _), Lib.hid (Fr.refl _ _)⟩
 case round =>
  obtain ⟨k, rfl, hk, HO, HF⟩ := hrel
  by_cases hlt : k < m
  · obtain ⟨z, hz⟩ : ∃ z, l[k]? = some z := ⟨_, List.getElem?_eq_getElem (by have := HM.out; omega)⟩
    obtain ⟨b, off, c', hvA, hcell⟩ := H0.out.cell hz
    have hA : A = some ⟨b, off, none⟩ := by injection hvA
    subst hA
    clear hvA
    have hfc : wr.cell? ⟨b, off + k, none⟩ = some (.int .i64 z) := (HF.out.cell (World.block_lt_of_cell? w _ hcell) (fun q => q)).trans hcell
    have hts : l.take (k + 1) = l.take k ++ [z] := by rw [List.take_add_one, hz]; rfl
    have hk0 : (0 : Int) ≤ (k : Int) := by omega
    have hkm : (k : Int) < (m : Int) := by omega
    have HT := Lib.hid hts
    clear hts hcell hz hlt
    by_cases hzn : z = n
    · have hb : (z != n) = false := by simp [hzn]
      have HZ := Lib.hid hzn
      clear hzn
      go_wp2_with fail
      refine ⟨⟨k + 1, by norm_cast, by omega, Lib.hid ?_, HF⟩, ?_⟩
      · have := HO.out
        rw [HT.out, List.filter_append]
        simpa [HZ.out] using this
      · simp only [intOf]
        omega
    · have hb : (z != n) = true := by simp [hzn]
      have HZ := Lib.hid hzn
      have hsl := slice_of_int z wr
      have hcu : (wr.alloc (.cells #[.int .i64 z] 3)).cell? ⟨wr.heap.size, 0, none⟩ = some (.int .i64 z) := by
       rw [(Blk.new wr 3 #[.int .i64 z]).cell]
       rfl
      have fa : Fr (fun _ => False) wr (wr.alloc (.cells #[.int .i64 z] 3)) := (Fr.refl _ wr).alloc _
      have ho := own_keep HO.out fa (fun _ _ q => q)
      have hlen : ((l.take k).filter fun z => decide (z ≠ n)).length ≤ 100000 := Nat.le_trans (List.length_filter_le _ _) (by rw [List.length_take]; omega)
      have HA := Lib.hid (And.intro hlen (And.intro hcu (And.intro fa (And.intro ho HF.out.size))))
      clear hcu fa ho hlen hzn
      go_wp2_with (first
       | (at_builtin; refine wpList_push_int rfl (.tmp 19) (.tmp 24) rfl rfl HA.out.2.2.2.1 rfl HA.out.2.1 HA.out.1 (by have := HA.out.2.2.2.2; have := HA.out.2.2.1.size; omega) ?_; intro v3 w3 ho3 hg3 hat3; have f3 := (HF.out.trans HA.out.2.2.1 (fun _ _ q => q)).grown hg3 (fun k hk => .inr (own_low HA.out.2.2.2.1 hk)); have H3 := Lib.hid (And.intro ho3 f3); clear ho3 hg3 hat3 f3))
      refine ⟨⟨k + 1, by norm_cast, by omega, Lib.hid ?_, Lib.hid H3.out.2⟩, ?_⟩
      · have := H3.out.1
        rw [HT.out, List.filter_append]
        simpa [HZ.out] using this
      · simp only [intOf]
        omega
  · have hkm : m = k := by omega
    have HE := Lib.hid HO.out
    clear hlt
    subst hkm
    go_wp2_with fail
    go_ret
    have := HE.out
    rw [List.take_of_length_le (by have := HM.out; omega)] at this
    exact ⟨_, rfl, this, HF.out⟩
theorem rhas6_any (h : IntsAt w v l) (hl : l.length ≤ 100000) (n : Int) : Calls Tryz.prog 64 #[v, .int .i64 n] w fun e w' => ∃ b, e = .returned (.bool b) ∧ Fr (fun _ => False) w w' := by
 have HW := Lib.hid (without_any h hl n)
 obtain ⟨A, c, hv, _, _⟩ := h
 obtain ⟨m, hm⟩ : ∃ m, m = l.length := ⟨_, rfl⟩
 rw [← hm] at hv hl
 subst hv
 clear hm
 go_enter Tryz.func64, Tryz.ntmps64
 go_wp2_with fail
 refine HW.out.mono ?_
 rintro e w1 ⟨u, rfl, ho, f⟩
 obtain ⟨A2, c2, hu, _, _⟩ := own_slice ho
 obtain ⟨k, hk⟩ : ∃ k, k = (l.filter fun z => decide (z ≠ n)).length := ⟨_, rfl⟩
 rw [← hk] at hu
 subst hu
 have HF := Lib.hid f
 clear ho f hk HW
 go_wp2_with fail
 go_ret
 exact ⟨_, rfl, HF.out⟩
end
end Go.Proofs.YtcnlgbjkjlbmbaaGreat

