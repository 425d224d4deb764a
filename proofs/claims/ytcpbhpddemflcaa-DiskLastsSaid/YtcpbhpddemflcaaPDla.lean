/- DiskLasts is true, for every two lists of acts, every number of sectors and all picks, in whatever memory: what was flushed lasts, and a sector that was written since is, half by half, as it was flushed or as one that was written. No conditions. -/
import Derived.Test.YtcpbhpddemflcaaLlt
import Derived.Test.YtcpbhpddemflcaaLaw
namespace Go.Proofs.Ytcpbhpddemflcaa
open Go.ChangeShapes Go.WideShapes Go.ChangeAt Go.RowKit

theorem ints_lt {w : World} {v : Value} {zs : List Int} (h : IntsAt w v zs) {b : Nat} (hb : v.ownBlock = some b) (hl : 0 < zs.length) : b < w.heap.size := by
  obtain ⟨A, c, rfl, _, h1⟩ := h
  obtain ⟨b', off, rfl, hc⟩ := h1 hl
  have h2 := World.block_lt_of_cell? w _ (hc 0 zs[0] (List.getElem?_eq_getElem hl))
  have e : b' = b := by simpa [Value.ownBlock] using hb
  rw [← e]
  exact h2
set_option maxRecDepth 100000 in
set_option maxHeartbeats 1000000 in
theorem lasts_out {W : World} {n : Int} {v1 v2 vp : Value} {l more : List ActD} {picks : List Int} (h1 : ActV W v1 l) (h2 : ActV W v2 more) (hp : IntsAt W vp picks)
    (hout : n < 1 ∨ 20 < n ∨ fewB l 40 = false ∨ fewB more 40 = false ∨ 100 < picks.length) :
    Calls Try.prog 4 #[.int .i64 n, v1, v2, vp] W fun e w' => e = .returned (.bool true) ∧ Fr (fun _ => False) W w' := by
  by_cases q1 : n < 1
  · clear hout h1 h2 hp
    go_enter Try.func4, Try.ntmps4
    go_wp2_with fail
    refine (known_any _).mono ?_
    rintro e wk ⟨rfl, fk⟩
    go_wp2_with fail
    go_ret
    exact ⟨rfl, fk⟩
  by_cases q2 : 20 < n
  · have q2' : n > 20 := q2
    clear hout h1 h2 hp
    go_enter Try.func4, Try.ntmps4
    go_wp2_with fail
    refine (known_any _).mono ?_
    rintro e wk ⟨rfl, fk⟩
    go_wp2_with fail
    go_ret
    exact ⟨rfl, fk⟩
  have F1 := few_any h1 40
  cases q3 : fewB l 40 with
  | false =>
    rw [q3] at F1
    clear hout h1 h2 hp q3
    go_enter Try.func4, Try.ntmps4
    go_wp2_with fail
    refine F1.mono ?_
    rintro e w1 ⟨rfl, f1⟩
    clear F1
    go_wp2_with fail
    refine (known_any _).mono ?_
    rintro e wk ⟨rfl, fk⟩
    go_wp2_with fail
    go_ret
    exact ⟨rfl, (f1.trans fk (fun _ _ q => q))⟩
  | true =>
    rw [q3] at F1
    cases q4 : fewB more 40 with
    | false =>
      clear hout hp q3
      go_enter Try.func4, Try.ntmps4
      go_wp2_with fail
      refine F1.mono ?_
      rintro e w1 ⟨rfl, f1⟩
      have F2 := few_any (h2.new f1) 40
      rw [q4] at F2
      clear F1 q4
      go_wp2_with fail
      refine F2.mono ?_
      rintro e w2 ⟨rfl, f2⟩
      clear F2
      go_wp2_with fail
      refine (known_any _).mono ?_
      rintro e wk ⟨rfl, fk⟩
      go_wp2_with fail
      go_ret
      exact ⟨rfl, ((f1.trans f2 (fun _ _ q => q)).trans fk (fun _ _ q => q))⟩
    | true =>
      have hpl : 100 < picks.length := by
        rcases hout with q | q | q | q | q
        · exact absurd q q1
        · exact absurd q q2
        · rw [q3] at q; cases q
        · rw [q4] at q; cases q
        · exact q
      obtain ⟨Ap, cp, rfl, _, _⟩ := hp
      obtain ⟨np, hnp⟩ : ∃ np, np = picks.length := ⟨_, rfl⟩
      rw [← hnp] at hpl ⊢
      have hg : 100 < (np : Int) := by omega
      have hg' : (np : Int) > 100 := hg
      clear hout q3 hnp
      go_enter Try.func4, Try.ntmps4
      go_wp2_with fail
      refine F1.mono ?_
      rintro e w1 ⟨rfl, f1⟩
      have F2 := few_any (h2.new f1) 40
      rw [q4] at F2
      clear F1 q4
      go_wp2_with fail
      refine F2.mono ?_
      rintro e w2 ⟨rfl, f2⟩
      clear F2
      go_wp2_with fail
      refine (known_any _).mono ?_
      rintro e wk ⟨rfl, fk⟩
      go_wp2_with fail
      go_ret
      exact ⟨rfl, ((f1.trans f2 (fun _ _ q => q)).trans fk (fun _ _ q => q))⟩
theorem lasts_all {W : World} {n : Int} {v1 v2 vp : Value} {l more : List ActD} {picks : List Int} (h1 : ActV W v1 l) (h2 : ActV W v2 more) (hp : IntsAt W vp picks) :
    Calls Try.prog 4 #[.int .i64 n, v1, v2, vp] W fun e w' => e = .returned (.bool true) ∧ Fr (fun _ => False) W w' := by
  by_cases hout : n < 1 ∨ 20 < n ∨ fewB l 40 = false ∨ fewB more 40 = false ∨ 100 < picks.length
  · exact lasts_out h1 h2 hp hout
  · obtain ⟨m, rfl⟩ : ∃ m : Nat, n = m := ⟨n.toNat, by omega⟩
    have hf1 : fewB l 40 = true := by
      cases hb : fewB l 40 with
      | true => rfl
      | false => exact absurd (.inr (.inr (.inl hb))) hout
    have hf2 : fewB more 40 = true := by
      cases hb : fewB more 40 with
      | true => rfl
      | false => exact absurd (.inr (.inr (.inr (.inl hb)))) hout
    exact lasts_any (by omega) (by omega) h1 h2 hp (fun b hb hl => ints_lt hp hb hl) hf1 hf2 (by omega)

set_option maxRecDepth 100000 in
theorem lifted_DiskLasts (os : Os) (started : os.Started) (H : Type) (enc : TypeId × Value → H) :
    ReturnsInHanded {} Try.checked os 4 .any (Rows.diskLastsSpec.pre6 enc Try.prog Try.f4 Rows.diskLastsRow.domain false) (Rows.diskLastsSpec.post enc Try.prog Try.f4 false true false false) := by
  refine returnsInHanded_of_change (C := Try.checked) own started (by kernel_rfl) Try.func4
    (ChangeSpec.witness6 (enc := enc) (C := Try.checked) false ⟨#[], #[.int .i64 0, .slice none 0 0, .slice none 0 0, .slice none 0 0], []⟩ 8 (by kernel_rfl) (by kernel_rfl) (by kernel_rfl) (by kernel_rfl)) ?_
  intro W base args ds gs before hval hW hcnd _
  have hA0 := hW
  obtain ⟨p, q, hA, hV, _⟩ := hA0
  change DataW.TrodAll enc Try.prog W 0 (fun _ => true) true Try.f4.params.toList args.toList ds p at hA
  have hval' : ∀ (j : Nat) t v, Try.f4.params[j]? = some t → args[j]? = some v → Value.okWide Try.prog W .any base t v := hval
  rw [Try.params4] at hA hval'
  obtain ⟨v0, vs0, d0, ds0, p0, q0, hargs, rfl, rfl, h0, r0⟩ := trodAll_cons hA
  obtain ⟨v1, vs1, d1, ds1, p1, q1, rfl, rfl, rfl, h1, r1⟩ := trodAll_cons r0
  obtain ⟨v2, vs2, d2, ds2, p2, q2, rfl, rfl, rfl, h2, r2⟩ := trodAll_cons r1
  obtain ⟨v3, vs3, d3, ds3, p3, q3, rfl, rfl, rfl, h3, r3⟩ := trodAll_cons r2
  obtain ⟨rfl, rfl, rfl⟩ := trodAll_nil r3
  obtain rfl : args = #[v0, v1, v2, v3] := by cases args; simp_all
  obtain ⟨z0, rfl, lo0, hi0⟩ := open_int (okWide_int Try.underlying3 (hval' 0 3 v0 rfl rfl)) h0
  obtain ⟨xs1, ha1⟩ := open_acts (okWide_slice Try.underlying22 (hval' 1 22 v1 rfl rfl)) h1
  obtain ⟨xs2, ha2⟩ := open_acts (okWide_slice Try.underlying22 (hval' 2 22 v2 rfl rfl)) h2
  obtain ⟨pk3, hpk3, hpi3⟩ := open_picks (okWide_slice Try.underlying35 (hval' 3 35 v3 rfl rfl)) h3
  exact (lasts_all ha1 ha2 hpk3).mono fun e W' ⟨he, hb⟩ => ⟨_, he, law_post laidOut rfl (by kernel_rfl) rfl Try.underlying4 hW rfl (hb.below (Nat.le_refl _) (fun _ _ q => q))⟩

theorem proved_DiskLasts : Rows.DiskLastsSaid :=
  OpenClaim.holds_of_wide 4 Try.f4 rfl rfl rfl rfl rfl rfl rfl ⟨rfl, rfl, rfl, rfl, rfl⟩ rfl rfl rfl rfl rfl (by kernel_rfl) Try.func4 (by kernel_rfl)
    (of_decide_eq_true (by kernel_rfl)) (by unfold Func.isWrapper; first | (rw [if_pos (by decide +kernel)]; kernel_rfl) | (rw [if_neg (by decide +kernel)]; exact ⟨rfl, rfl⟩))
    (fun os started H enc _ => lifted_DiskLasts os started H enc)
#print axioms proved_DiskLasts
end Go.Proofs.Ytcpbhpddemflcaa
