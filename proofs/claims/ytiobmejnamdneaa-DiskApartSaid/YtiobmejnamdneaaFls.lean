/- The program's disk: Flush. -/
import Derived.Test.YtiobmejnamdneaaOpn
import Derived.Maps.RangeWalk
namespace Go.Proofs.Ytiobmejnamdneaa
open Go.RowKit Go.Maps

/-- Behind a flush: nothing is open. -/
def DS.flush (d : DS) : DS := { d.step with vs := fun _ => [] }
section
variable {w w' : World} {F : Nat → Prop} {g R M : Nat} {D D' : DataW Value} {val : Nat → Value} {d : DS}
theorem DiskW.settle (h : DiskW w F g R M D val d) {k : Nat} (f : Fr (fun b => b = M) w w') (hm : w'.ownsMap Try.prog 3 HV M k D') (hno : ∀ kl, Maps.has D' kl = false) : DiskW w' F g R M D' val { d with vs := fun _ => [] } :=
  { h with
    blk := h.blk.keep f (fun e => h.gM e)
    red := h.red.keep f (fun e => h.rM e)
    map := map_tight hm
    keys := fun k hk => by rw [hno] at hk; cases hk
    opn := fun i _ => ⟨fun hk => (by rw [hno] at hk; cases hk), fun hv => absurd rfl hv⟩
    at_ := fun i _ hv => absurd rfl hv
    row := fun i _ hv => absurd rfl hv
    all := fun i _ s hs => by cases hs
    own := fun i b _ hv => absurd rfl hv
    sep := fun i j b _ _ hv => absurd rfl hv }
theorem none_in (h : DiskW w F g R M D val d) : Calls Try.prog 27 #[.pointer (some ⟨g, 0, none⟩)] w fun e w' => e = .returned (.bool false) ∧ w = w' := by
  have := none_any h.blk
  rwa [decide_eq_false (by have := h.n0; omega)] at this
theorem dflush_dead (h : DiskW w F g R M D val d) (hd : deadS d.fu d.lf d.dd = true) : Calls Try.prog 17 #[.pointer (some ⟨g, 0, none⟩)] w fun e w' => e = .returned (.int .i64 10) ∧ DiskW w' F g R M D val d.step ∧ Fr F w w' := by
  have HH := none_in h
  have HS := dstep_any h
  rw [hd] at HS
  simp only [↓reduceIte] at HS
  have HF := Lib.hid h.fg
  clear hd h
  go_enter Try.func17, Try.ntmps17
  go_wp2_with (first
    | (go_at_call 27; refine HH.mono ?_; rintro e w' ⟨rfl, rfl⟩)
    | (go_at_call 35; refine HS.mono ?_; rintro e w' ⟨rfl, h1, f1⟩))
  go_ret
  exact ⟨rfl, h1, f1.mono (fun j _ e => by have e' : j = g := e; rw [e']; exact HF.out)⟩

set_option maxRecDepth 100000 in
set_option maxHeartbeats 1000000 in
theorem dflush_any (h : DiskW w F g R M D val d) (hd : deadS d.fu d.lf d.dd = false) : Calls Try.prog 17 #[.pointer (some ⟨g, 0, none⟩)] w fun e w' => e = .returned (.int .i64 0) ∧ (∃ D', DiskW w' F g R M D' val d.flush) ∧ Fr F w w' := by
  have HH := none_in h
  have HS := dstep_any h
  rw [hd] at HS
  simp only [Bool.false_eq_true, ↓reduceIte] at HS
  have HF := Lib.hid (And.intro h.fg h.fM)
  clear hd h
  go_enter Try.func17, Try.ntmps17
  go_wp2_with (go_at_call 27; refine HH.mono ?_; rintro e w' ⟨rfl, rfl⟩)
  refine HS.mono ?_
  rintro e w6 ⟨rfl, h1, f1⟩
  obtain ⟨c0, c1, c2, c3, c4⟩ := dsk_cells h1.blk
  have hmap := h1.map
  have h6 := Lib.hid h1
  clear h1 HH HS
  go_wp2_with (first
    | (at_range; refine wpList_range_own _ rfl _ 61 rfl 3 38 kyT Try.underlying61 HV M (Maps.size D) D rfl hmap ?_; intro w0 hrg0 hg0 hs0)
    | go_in)
  go_frame
  have hf0 : Fr (fun b => b = M) w6 w0 := (Fr.refl _ w6).grown hg0 (fun k hk => by cases hk)
  clear c0 c1 c2 c3 c4 hmap
  go_loopw [4] (fun _ wr => ∃ (Dk : DataW Value) (left : Lit → Bool) (cnt : Nat), wr.ranges Try.prog 3 HV M w6.heap.size (Maps.size D) Dk left cnt ∧ (∀ kl, Maps.has Dk kl = true → left kl = true) ∧ Fr (fun b => b = M) w6 wr)
    (fun _ wr => wr.rangeLeft M w6.heap.size)
  case atStart => exact ⟨_, _, _, hrg0, fun _ q => q, hf0⟩
  case round =>
    obtain ⟨Dk, left, cnt, hrg, hin, hfr⟩ := hrel
    clear hrg0 hf0 hg0 hs0
    go_wp2_with (first
      | (at_next; refine wpList_next_ranges _ rfl _ rfl 3 kyT HV (Value.int .i64) (fun v : Value => v) (fun key kl hkey => by obtain ⟨x, rfl, _⟩ := Maps.keyOf_int_inv Try.underlying3 hkey; exact ⟨x, rfl⟩) (fun v y _ => ⟨v, rfl⟩) M w6.heap.size (Maps.size D) _ _ _ rfl hrg ?_ ?_)
      | go_in)
    · intro _ hl0
      have hno : ∀ kl, Maps.has Dk kl = false := fun kl => by
        cases hb : Maps.has Dk kl with
        | false => rfl
        | true => have := hin kl hb; rw [hl0] at this; cases this
      have hE := Lib.hid (And.intro (h6.out.settle hfr hrg.owns hno) hfr)
      clear hrg hin hfr hl0 hno
      go_wp2
      go_ret
      exact ⟨rfl, ⟨_, hE.out.1⟩, (f1.mono (G := F) (fun j _ e => by have e' : j = g := e; rw [e']; exact HF.out.1)).trans hE.out.2 (fun j _ e => by have e' : j = M := e; rw [e']; exact HF.out.2)⟩
    · intro x c kl y ps w1 cnt1 hkey hlx hy hps hat hrg1 hlt hg1 hs1 hen
      have hfr1 : Fr (fun b => b = M) w6 w1 := hfr.grown hg1 (fun k hk => .inr (by injection hk with hk; omega))
      have c1 : w1.cell? ⟨g, 1, none⟩ = some (.map (some M)) := (hfr1.cell (p := ⟨g, 1, none⟩) h6.out.lt.1 (fun e => h6.out.gM e)).trans (dsk_cells h6.out.blk).2.1
      go_wp2_with (first
        | (at_delete; refine wpList_delete_ranges _ rfl _ _ 61 3 rfl 38 kyT Try.underlying61 HV M w6.heap.size (Maps.size D) _ _ _ rfl hrg1 _ kl rfl hkey ?_; intro w2 cnt2 hrg2 hle hturn; go_frame)
        | go_in)
      rw [strike_twice] at hrg2
      go_roundw
      case rel =>
        refine ⟨_, _, cnt2, hrg2, fun k hk => ?_, hfr1.grown hturn.grown (fun k hk => .inl (by injection hk with hk; exact hk.symm))⟩
        by_cases e : k = kl
        · subst e
          rw [Maps.has_del_same] at hk
          cases hk
        · rw [Maps.has_del_other e] at hk
          simp [hin k hk, Maps.sameKey_ne e]
      case measure => rw [hrg2.left_eq, hrg.left_eq]; omega
end
end Go.Proofs.Ytiobmejnamdneaa
