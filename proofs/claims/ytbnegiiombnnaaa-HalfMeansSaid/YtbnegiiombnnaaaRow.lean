/- Rows that came in: what is said of them, and the law's rows. -/
import Derived.Test.YtbnegiiombnnaaaHkn
import Derived.Test.YtbnegiiombnnaaaLaw
import Derived.Deep.Slices
import Derived.Lib.SmallJoins
import Derived.Deep.RegionHeld3
namespace Go.Proofs.Ytbnegiiombnnaaa
open Go.ChangeShapes Go.WideShapes Go.ChangeAt Go.RowKit

theorem rmay_any (w : World) (c : Nat) (n : Int) : Calls Try.prog 9 #[.agg #[.int .u64 c, .int .i64 n]] w fun e w' => e = .returned (.bool (mayT c n)) ∧ Fr (fun _ => False) w w' := by
  go_enter Try.func9, Try.ntmps9
  go_wp2_with fail
  all_goals
    go_ret
    refine ⟨congrArg (fun b => Ending.returned (Value.bool b)) ?_, (Fr.refl _ _).alloc _⟩
    unfold mayT
    rw [Bool.eq_iff_iff]
    simp
    omega

def tagEq (c : Nat) (n : Int) (c' : Nat) (n' : Int) : Bool := decide (c = c') && decide (n = n')
theorem tagEq_iff {c c' : Nat} {n n' : Int} : tagEq c n c' n' = true ↔ c = c' ∧ n = n' := by simp [tagEq]
theorem tag_eql (c : Nat) (n : Int) (c' : Nat) (n' : Int) (w : World) : (binOp .eql 24 (.agg #[.int .u64 c, .int .i64 n]) (.agg #[.int .u64 c', .int .i64 n'])).run Try.prog w = .ok (.bool (tagEq c n c' n')) w := by
  go_simp
  unfold tagEq
  by_cases h1 : c = c' <;> by_cases h2 : n = n' <;> simp [h1, h2, Int.natCast_inj]
theorem tag_neq (c : Nat) (n : Int) (c' : Nat) (n' : Int) (w : World) : (binOp .neq 24 (.agg #[.int .u64 c, .int .i64 n]) (.agg #[.int .u64 c', .int .i64 n'])).run Try.prog w = .ok (.bool (!tagEq c n c' n')) w := by
  go_simp
  unfold tagEq
  by_cases h1 : c = c' <;> by_cases h2 : n = n' <;> simp [h1, h2, Int.natCast_inj]

/-- A row that came in. -/
structure RowD where
  c : Nat
  n : Int
  A : Option Addr
  m : Nat
  k : Nat
  l : List UInt8
structure RowOk (w : World) (x : RowD) : Prop where
  c : x.c < 18446744073709551616
  n1 : -9223372036854775808 ≤ x.n
  n2 : x.n ≤ 9223372036854775807
  rd : Rd w x.A x.m x.l
  mc : x.m ≤ x.k
  km : x.k ≤ maxLen
def RowsAt (w : World) (b off : Nat) (xs : List RowD) : Prop := ∀ i x, xs[i]? = some x → RowOk w x ∧ w.cell? ⟨b, off + i * 3, none⟩ = some (.int .u64 x.c) ∧ w.cell? ⟨b, off + i * 3 + 1, none⟩ = some (.int .i64 x.n) ∧ w.cell? ⟨b, off + i * 3 + 2, none⟩ = some (.slice x.A x.m x.k)
theorem cell_new {w w' : World} {p : Addr} {v : Value} (h : w.cell? p = some v) (f : Fr (fun _ => False) w w') : w'.cell? p = some v :=
  (f.cell (World.block_lt_of_cell? w _ h) (fun q => q)).trans h
theorem RowsAt.new {w w' : World} {b off : Nat} {xs : List RowD} (h : RowsAt w b off xs) (f : Fr (fun _ => False) w w') : RowsAt w' b off xs := fun i x hi => by
  obtain ⟨h0, h1, h2, h3⟩ := h i x hi
  exact ⟨⟨h0.c, h0.n1, h0.n2, h0.rd.keep f (fun _ _ q => q), h0.mc, h0.km⟩, cell_new h1 f, cell_new h2 f, cell_new h3 f⟩
theorem RowsAt.range {w : World} {b off : Nat} {xs : List RowD} (h : RowsAt w b off xs) {i : Nat} {x : RowD} (hi : xs[i]? = some x) : w.rangeAt b (off + i * 3) [.int .u64 x.c, .int .i64 x.n] := fun j v hv => by
  obtain ⟨_, h1, h2, _⟩ := h i x hi
  match j with
  | 0 => simp at hv; rw [← hv]; exact h1
  | 1 => simp at hv; rw [← hv]; exact h2
  | j + 2 => simp at hv

set_option maxRecDepth 100000 in
set_option maxHeartbeats 4000000 in
theorem rows_any {w : World} {b off : Nat} {xs : List RowD} {cap : Nat} (h : RowsAt w b off xs) (hl : xs.length ≤ maxLen) :
    Calls Try.prog 20 #[.slice (some ⟨b, off, none⟩) xs.length cap] w fun e w' => ∃ β, e = .returned (.bool β) ∧ Fr (fun _ => False) w w' ∧ (β = true → xs.length ≤ 5 ∧ ∀ x ∈ xs, mayT x.c x.n = true ∧ x.m ≤ 3000) := by
  have H := Lib.hid h
  have hl' : xs.length ≤ 9223372036854775807 := by simp only [maxLen] at hl; omega
  clear h hl
  go_enter Try.func20, Try.ntmps20
  go_wp2_with fail
  go_loopw [3, 4] (fun i _ wr => ∃ k : Nat, i = .int .i64 k ∧ k ≤ xs.length ∧ Hid (∀ x ∈ xs.take k, mayT x.c x.n = true ∧ x.m ≤ 3000) ∧ Hid (Fr (fun _ => False) w wr)) (fun i _ _ => xs.length - (intOf i).toNat)
  case atStart => exact ⟨0, rfl, Nat.zero_le _, Lib.hid (by simp), Lib.hid (Fr.refl _ _)⟩
  case round =>
    obtain ⟨k, rfl, hk, HS, HF⟩ := hrel
    by_cases hlt : k < xs.length
    · obtain ⟨hok, h0, h1, h2⟩ := (H.out.new HF.out) k xs[k] (List.getElem?_eq_getElem hlt)
      have HRG := Lib.hid ((H.out.new HF.out).range (List.getElem?_eq_getElem hlt))
      have HT := Lib.hid (List.take_succ_eq_append_getElem hlt)
      have HX := Lib.hid (List.getElem?_eq_getElem hlt)
      generalize xs[k] = x at *
      have hi0 : (0 : Int) ≤ (k : Int) := Int.natCast_nonneg _
      have hi1 : (k : Int) < (xs.length : Int) := by omega
      have HOK := Lib.hid hok
      clear hok
      go_wp2_with fail
      refine (rmay_any _ x.c x.n).mono ?_
      rintro e w2 ⟨rfl, hf2⟩
      have d2 := cell_new h2 hf2
      have HF2 := Lib.hid (HF.out.trans hf2 (fun _ _ q => q))
      clear h0 h1 h2 hf2 HF HRG
      cases hm : mayT x.c x.n with
      | false =>
        have HM := Lib.hid hm
        clear hm
        go_wp2_with fail
        go_ret
        exact ⟨false, rfl, HF2.out, fun h => by cases h⟩
      | true =>
        have HM := Lib.hid hm
        clear hm
        by_cases h3 : x.m ≤ 3000
        · have h3' : ¬ (3000 : Int) < (x.m : Int) := by omega
          have H3 := Lib.hid h3
          clear h3
          go_wp2_with fail
          generalize wr = wr0 at *
          go_loopw [4] (fun j wr => ∃ q : Nat, j = .int .i64 q ∧ q ≤ k ∧ Hid (Fr (fun _ => False) w wr)) (fun j _ => k - (intOf j).toNat)
          case atStart => exact ⟨0, rfl, Nat.zero_le _, HF2⟩
          case round =>
            obtain ⟨q, rfl, hq, HFq⟩ := hrel
            by_cases hqk : q < k
            · obtain ⟨y, hy⟩ : ∃ y, xs[q]? = some y := ⟨_, List.getElem?_eq_getElem (by omega)⟩
              obtain ⟨_, y0, y1, _⟩ := (H.out.new HFq.out) q y hy
              obtain ⟨_, x0, x1, _⟩ := (H.out.new HFq.out) k x HX.out
              have hq0 : (0 : Int) ≤ (q : Int) := Int.natCast_nonneg _
              have hq1 : (q : Int) < (xs.length : Int) := by omega
              clear hy
              go_wp2_with fail
              have heq := tag_eql y.c y.n x.c x.n
              generalize tagEq y.c y.n x.c x.n = β at *
              go_region_held3 (fun w' => w'.cell? ⟨b, off + q * 3, none⟩ = some (.int .u64 y.c) ∧ w'.cell? ⟨b, off + q * 3 + 1, none⟩ = some (.int .i64 y.n) ∧ w'.cell? ⟨b, off + k * 3, none⟩ = some (.int .u64 x.c) ∧ w'.cell? ⟨b, off + k * 3 + 1, none⟩ = some (.int .i64 x.n)) (go_keep) (fail)
              clear heq y0 y1 x0 x1
              cases β with
              | true =>
                go_wp2_with fail
                go_ret
                exact ⟨false, rfl, HFq.out.drew, fun h => by cases h⟩
              | false =>
                go_wp2_with fail
                exact ⟨⟨q + 1, by go_num, by omega, Lib.hid HFq.out.drew⟩, by simp [intOf]; omega⟩
            · obtain rfl : q = k := by omega
              clear hq
              go_wp2_with fail
              refine ⟨⟨q + 1, by go_num, by omega, Lib.hid (fun z hz => ?_), HFq⟩, by simp [intOf]; omega⟩
              rw [HT.out] at hz
              rcases List.mem_append.1 hz with hz | hz
              · exact HS.out z hz
              · rw [List.mem_singleton.1 hz]
                exact ⟨HM.out, H3.out⟩
        · have h3' : (3000 : Int) < (x.m : Int) := by omega
          go_wp2_with fail
          go_ret
          exact ⟨false, rfl, HF2.out, fun h => by cases h⟩
    · obtain rfl : k = xs.length := by omega
      go_wp2_with fail
      go_ret
      refine ⟨_, rfl, HF.out, fun h => ?_⟩
      have HS' := HS.out
      rw [List.take_length] at HS'
      refine ⟨by simp at h; omega, HS'⟩
end Go.Proofs.Ytbnegiiombnnaaa
