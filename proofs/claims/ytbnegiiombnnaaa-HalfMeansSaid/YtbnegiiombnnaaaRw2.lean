/- The law's rows, whole: of unlike tags. -/
import Derived.Test.YtbnegiiombnnaaaRow
namespace Go.Proofs.Ytbnegiiombnnaaa
open Go.ChangeShapes Go.WideShapes Go.ChangeAt Go.RowKit

/-- The first k rows are of unlike tags. -/
def Dist (xs : List RowD) (k : Nat) : Prop := ∀ i j x y, i < k → j < k → xs[i]? = some x → xs[j]? = some y → x.c = y.c → x.n = y.n → i = j
theorem Dist.zero (xs : List RowD) : Dist xs 0 := fun i j x y hi => by omega
theorem Dist.succ {xs : List RowD} {k : Nat} {x : RowD} (h : Dist xs k) (hx : xs[k]? = some x) (hq : ∀ i y, i < k → xs[i]? = some y → tagEq y.c y.n x.c x.n = false) : Dist xs (k + 1) := fun i j a b hi hj ha hb hc hn => by
  rcases Nat.lt_or_ge i k with gi | gi
  · rcases Nat.lt_or_ge j k with gj | gj
    · exact h i j a b gi gj ha hb hc hn
    · obtain rfl : j = k := by omega
      rw [hx] at hb
      injection hb with hb
      subst hb
      have := hq i a gi ha
      rw [tagEq_iff.2 ⟨hc, hn⟩] at this
      cases this
  · obtain rfl : i = k := by omega
    rw [hx] at ha
    injection ha with ha
    subst ha
    rcases Nat.lt_or_ge j i with gj | gj
    · have := hq j b gj hb
      rw [tagEq_iff.2 ⟨hc.symm, hn.symm⟩] at this
      cases this
    · omega

set_option maxRecDepth 100000 in
set_option maxHeartbeats 4000000 in
theorem rows_full {w : World} {b off : Nat} {xs : List RowD} {cap : Nat} (h : RowsAt w b off xs) (hl : xs.length ≤ maxLen) :
    Calls Try.prog 20 #[.slice (some ⟨b, off, none⟩) xs.length cap] w fun e w' => ∃ β, e = .returned (.bool β) ∧ Fr (fun _ => False) w w' ∧ (β = true → xs.length ≤ 5 ∧ (∀ x ∈ xs, mayT x.c x.n = true ∧ x.m ≤ 3000) ∧ Dist xs xs.length) := by
  have H := Lib.hid h
  have hl' : xs.length ≤ 9223372036854775807 := by simp only [maxLen] at hl; omega
  clear h hl
  go_enter Try.func20, Try.ntmps20
  go_wp2_with fail
  go_loopw [3, 4] (fun i _ wr => ∃ k : Nat, i = .int .i64 k ∧ k ≤ xs.length ∧ Hid (∀ x ∈ xs.take k, mayT x.c x.n = true ∧ x.m ≤ 3000) ∧ Hid (Dist xs k) ∧ Hid (Fr (fun _ => False) w wr)) (fun i _ _ => xs.length - (intOf i).toNat)
  case atStart => exact ⟨0, rfl, Nat.zero_le _, Lib.hid (by simp), Lib.hid (Dist.zero _), Lib.hid (Fr.refl _ _)⟩
  case round =>
    obtain ⟨k, rfl, hk, HS, HD, HF⟩ := hrel
    by_cases hlt : k < xs.length
    · obtain ⟨hok, h0, h1, h2⟩ := (H.out.new HF.out) k xs[k] (List.getElem?_eq_getElem hlt)
      have HRG := Lib.hid ((H.out.new HF.out).range (List.getElem?_eq_getElem hlt))
      have HT := Lib.hid (List.take_succ_eq_append_getElem hlt)
      have HX := Lib.hid (List.getElem?_eq_getElem hlt)
      generalize xs[k] = x at *
      have hi0 : (0 : Int) ≤ (k : Int) := Int.natCast_nonneg _
      have hi1 : (k : Int) < (xs.length : Int) := by omega
      have HOK := Lib.hid hok
      clear hok
      go_wp2_with fail
      refine (rmay_any _ x.c x.n).mono ?_
      rintro e w2 ⟨rfl, hf2⟩
      have d2 := cell_new h2 hf2
      have HF2 := Lib.hid (HF.out.trans hf2 (fun _ _ q => q))
      clear h0 h1 h2 hf2 HF HRG
      cases hm : mayT x.c x.n with
      | false =>
        have HM := Lib.hid hm
        clear hm
        go_wp2_with fail
        go_ret
        exact ⟨false, rfl, HF2.out, fun h => by cases h⟩
      | true =>
        have HM := Lib.hid hm
        clear hm
        by_cases h3 : x.m ≤ 3000
        · have h3' : ¬ (3000 : Int) < (x.m : Int) := by omega
          have H3 := Lib.hid h3
          clear h3
          go_wp2_with fail
          generalize wr = wr0 at *
          go_loopw [4] (fun j wr => ∃ q : Nat, j = .int .i64 q ∧ q ≤ k ∧ Hid (∀ i y, i < q → xs[i]? = some y → tagEq y.c y.n x.c x.n = false) ∧ Hid (Fr (fun _ => False) w wr)) (fun j _ => k - (intOf j).toNat)
          case atStart => exact ⟨0, rfl, Nat.zero_le _, Lib.hid (fun i y hi => by omega), HF2⟩
          case round =>
            obtain ⟨q, rfl, hq, HQ, HFq⟩ := hrel
            by_cases hqk : q < k
            · obtain ⟨y, hy⟩ : ∃ y, xs[q]? = some y := ⟨_, List.getElem?_eq_getElem (by omega)⟩
              obtain ⟨_, y0, y1, _⟩ := (H.out.new HFq.out) q y hy
              obtain ⟨_, x0, x1, _⟩ := (H.out.new HFq.out) k x HX.out
              have hq0 : (0 : Int) ≤ (q : Int) := Int.natCast_nonneg _
              have hq1 : (q : Int) < (xs.length : Int) := by omega
              have HY := Lib.hid hy
              clear hy
              go_wp2_with fail
              have heq := tag_eql y.c y.n x.c x.n
              obtain ⟨β, hβ⟩ : ∃ β, β = tagEq y.c y.n x.c x.n := ⟨_, rfl⟩
              rw [← hβ] at heq
              have HB := Lib.hid hβ
              clear hβ
              go_region_held3 (fun w' => w'.cell? ⟨b, off + q * 3, none⟩ = some (.int .u64 y.c) ∧ w'.cell? ⟨b, off + q * 3 + 1, none⟩ = some (.int .i64 y.n) ∧ w'.cell? ⟨b, off + k * 3, none⟩ = some (.int .u64 x.c) ∧ w'.cell? ⟨b, off + k * 3 + 1, none⟩ = some (.int .i64 x.n)) (go_keep) (fail)
              clear heq y0 y1 x0 x1
              cases β with
              | true =>
                go_wp2_with fail
                go_ret
                exact ⟨false, rfl, HFq.out.drew, fun h => by cases h⟩
              | false =>
                go_wp2_with fail
                refine ⟨⟨q + 1, by go_num, by omega, Lib.hid (fun i z hi hz => ?_), Lib.hid HFq.out.drew⟩, by simp [intOf]; omega⟩
                rcases Nat.lt_or_ge i q with g | g
                · exact HQ.out i z g hz
                · have e : i = q := by omega
                  rw [e, HY.out] at hz
                  injection hz with hz
                  rw [← hz]
                  exact HB.out.symm
            · obtain rfl : q = k := by omega
              clear hq
              go_wp2_with fail
              refine ⟨⟨q + 1, by go_num, by omega, Lib.hid (fun z hz => ?_), Lib.hid (HD.out.succ HX.out HQ.out), HFq⟩, by simp [intOf]; omega⟩
              rw [HT.out] at hz
              rcases List.mem_append.1 hz with hz | hz
              · exact HS.out z hz
              · rw [List.mem_singleton.1 hz]
                exact ⟨HM.out, H3.out⟩
        · have h3' : (3000 : Int) < (x.m : Int) := by omega
          go_wp2_with fail
          go_ret
          exact ⟨false, rfl, HF2.out, fun h => by cases h⟩
    · obtain rfl : k = xs.length := by omega
      go_wp2_with fail
      go_ret
      refine ⟨_, rfl, HF.out, fun h => ?_⟩
      have HS' := HS.out
      rw [List.take_length] at HS'
      refine ⟨by simp at h; omega, HS', HD.out⟩
end Go.Proofs.Ytbnegiiombnnaaa
