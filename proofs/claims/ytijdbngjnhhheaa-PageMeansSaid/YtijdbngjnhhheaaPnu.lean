/- page.number, page.putNumber. -/
import Derived.Test.YtijdbngjnhhheaaPar
import Derived.Laws.Bits64
import Derived.Laws.BitsAllLaws
namespace Go.Proofs.Ytijdbngjnhhheaa
open Go.RowKit

set_option maxRecDepth 100000 in
theorem take_snoc_b {l : List UInt8} {k : Nat} {x : UInt8} (h : l[k]? = some x) : l.take (k + 1) = l.take k ++ [x] := by
  rw [List.take_add_one, h]; rfl
set_option maxRecDepth 100000 in
theorem i64_or_nat (a b : Nat) (ha : a < 2 ^ 63) (hb : b < 2 ^ 63) : bits .or .i64 (a : Int) (b : Int) = ((a ||| b : Nat) : Int) := by
  have h : a ||| b < 2 ^ 63 := Nat.or_lt_two_pow ha hb
  show IntKind.i64.wrap (((BitVec.ofInt 64 (a : Int) ||| BitVec.ofInt 64 (b : Int) : BitVec 64).toNat : Nat) : Int) = ((a ||| b : Nat) : Int)
  rw [BitVec.toNat_or, BitVec.toNat_ofInt, BitVec.toNat_ofInt]
  have e1 : ((a : Int) % ((2 ^ 64 : Nat) : Int)).toNat = a := by omega
  have e2 : ((b : Int) % ((2 ^ 64 : Nat) : Int)).toNat = b := by omega
  rw [e1, e2, IntKind.wrap_i64]
  omega
set_option maxRecDepth 100000 in
theorem num_step {l : List UInt8} {k s : Nat} {x : UInt8} (hx : l[k]? = some x) (hk : k < s) (hs : s ≤ 4) : bits BinOp.or IntKind.i64 ((numOf (l.take k) : Int) * 256) (x.toNat : Int) = ((numOf (l.take (k + 1)) : Nat) : Int) := by
  have h1 := numOf_lt (l.take k)
  have h2 : (l.take k).length ≤ 3 := by rw [List.length_take]; omega
  have h3 : 256 ^ (l.take k).length ≤ 256 ^ 3 := Nat.pow_le_pow_right (by omega) h2
  have hx8 := x.toNat_lt
  have e1 : (numOf (l.take k) : Int) * 256 = ((numOf (l.take k) * 256 : Nat) : Int) := by omega
  rw [e1, i64_or_nat _ _ (by omega) (by omega)]
  congr 1
  have e2 : numOf (l.take k) * 256 = 2 ^ 8 * numOf (l.take k) := by omega
  rw [e2, ← Nat.two_pow_add_eq_or_of_lt hx8, take_snoc_b hx, numOf_app]
  have h4 : numOf [x] = x.toNat := by simp [numOf]
  rw [h4]
  simp
  omega
set_option maxRecDepth 100000 in
theorem num_small (l : List UInt8) {k : Nat} (hk : k ≤ 4) : numOf (l.take k) < 4294967296 := by
  have h1 := numOf_lt (l.take k)
  have h2 : (l.take k).length ≤ 4 := by rw [List.length_take]; omega
  have h3 : 256 ^ (l.take k).length ≤ 256 ^ 4 := Nat.pow_le_pow_right (by omega) h2
  omega
set_option maxRecDepth 100000 in
theorem number_any {w : World} {A : Option Addr} {n c : Nat} {l : List UInt8} (h : Rd w A n l) (hnc : n ≤ c) {s : Nat} (hs : s ≤ 4) (hn : s ≤ n) :
    Calls Try.prog 66 #[.slice A n c, .int .i64 s] w fun e w' => e = .returned (.int .i64 (numOf (l.take s) : Nat)) ∧ w = w' := by
  have hl := h.len
  have hst := slice_to (P := Try.prog) (t := 34) Try.underlying34 (fun w => by go_simp) h hnc s hn
  have hs1 := hst.1
  have HR := Lib.hid h
  clear hst h
  go_enter Try.func66, Try.ntmps66
  go_wp2_with fail
  go_loopw [5, 12] (fun m i wr => ∃ k : Nat, i = .int .i64 k ∧ k ≤ s ∧ m = .int .i64 (numOf (l.take k) : Nat) ∧ wr = w) (fun _ i _ => s - (intOf i).toNat)
  case atStart => exact ⟨0, rfl, Nat.zero_le _, rfl, rfl⟩
  case round =>
    obtain ⟨k, rfl, hk, rfl, rfl⟩ := hrel
    by_cases hlt : k < s
    · obtain ⟨ad, x, hA1, hx, hcell⟩ := HR.out.at_ (k := k) (by omega)
      subst hA1
      have hi0 : (0 : Int) ≤ (k : Int) := by omega
      have hi1 : (k : Int) < (s : Int) := by omega
      have hx8 := x.toNat_lt
      have hns := num_small l (k := k) (by omega)
      have HST := Lib.hid (num_step hx hlt hs)
      generalize numOf (l.take k) = q at *
      clear hx
      go_wp2_with fail
      refine ⟨⟨k + 1, by go_num, hlt, ?_, trivial⟩, by simp [intOf]; omega⟩
      exact congrArg _ HST.out
    · obtain rfl : k = s := by omega
      go_wp2_with fail
      go_ret
      exact ⟨rfl, rfl⟩
set_option maxRecDepth 100000 in
/-- A number laid into a block, the highest byte first. -/
theorem putnum_any {w : World} {B o n c : Nat} {t : TypeId} {l : List UInt8} (h : Blk w B t (cellsB l).toArray) (hol : o + n ≤ l.length) (hnc : n ≤ c) {x s : Nat} (hs : s ≤ 4) (hn : s ≤ n) (hx : x < 4294967296) :
    Calls Try.prog 40 #[.slice (some ⟨B, o, none⟩) n c, .int .i64 x, .int .i64 s] w fun e w' => e = .returned (.tuple #[]) ∧ Blk w' B t (cellsB (patch l o (be x s))).toArray ∧ Fr (fun k => k = B) w w' := by
  have HB0 := Lib.hid h
  clear h
  go_enter Try.func40, Try.ntmps40
  go_wp2_with fail
  go_loopw [8] (fun i wr => ∃ k : Nat, i = .int .i64 k ∧ k ≤ s ∧ Blk wr B t (cellsB (patch l o ((be x s).take k))).toArray ∧ Fr (fun k => k = B) w wr) (fun i _ => s - (intOf i).toNat)
  case atStart => exact ⟨0, rfl, Nat.zero_le _, by simpa [patch] using HB0.out, Fr.refl _ _⟩
  case round =>
    obtain ⟨k, rfl, hk, hbox, hfr⟩ := hrel
    have HB := Lib.hid hbox
    have HF := Lib.hid hfr
    clear hbox hfr
    by_cases hlt : k < s
    · obtain ⟨j, hj⟩ : ∃ j, j = s - 1 - k := ⟨_, rfl⟩
      have e1 : ((s : Int) - 1 - (k : Int)) = (j : Int) := by omega
      have hj3 : j ≤ 3 := by omega
      have hnk : k < n := by omega
      have hpl : (patch l o ((be x s).take k)).length = l.length := patch_len (by rw [List.length_take, be_len]; omega)
      have hcb : ∃ v, wr.cell? ⟨B, o + k, none⟩ = some v := by
        rw [HB.out.cell]
        exact ⟨_, Array.getElem?_eq_getElem (by simp [cellsB_len, hpl]; omega)⟩
      obtain ⟨vb, hvb⟩ := hcb
      have hfb := HB.out.frozen (o + k)
      have hi0 : (0 : Int) ≤ (k : Int) := by omega
      have hi1 : (k : Int) < (n : Int) := by omega
      have HJ := Lib.hid hj
      clear hj hpl
      go_wp2_with fail
      have hml : ((be x s).take k).length = k := by rw [List.length_take, be_len]; omega
      have hput := HB.out.set_ (o + k) (.int .u8 ((UInt8.ofNat (x / 256 ^ (s - 1 - k) % 256)).toNat : Int))
      have hput2 : Blk (wr.setCell ⟨B, o + k, none⟩ (.int .u8 ((UInt8.ofNat (x / 256 ^ (s - 1 - k) % 256)).toNat : Int))) B t (cellsB (patch l o ((be x s).take (k + 1)))).toArray := by
        rw [be_at x s k hlt, ← patch_snoc (by rw [hml]; omega), hml]
        simpa [cellsB, List.map_set] using hput
      rw [← shr_byte, ← HJ.out] at hput2
      exact ⟨⟨k + 1, by go_num, hlt, hput2, (HF.out.setCell (p := ⟨B, o + k, none⟩) (.inl rfl) _)⟩, by simp [intOf]; omega⟩
    · obtain rfl : k = s := by omega
      have ht : (be x k).take k = be x k := by rw [List.take_of_length_le]; rw [be_len]; exact Nat.le_refl _
      rw [ht] at HB
      clear ht
      go_wp2_with fail
      go_end0
      exact ⟨rfl, HB.out, HF.out⟩
end Go.Proofs.Ytijdbngjnhhheaa
