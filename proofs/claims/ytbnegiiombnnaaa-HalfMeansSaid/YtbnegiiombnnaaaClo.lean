/- Numbers put into bytes, and taken off them, by closures. -/
import Derived.Test.YtbnegiiombnnaaaArr
namespace Go.Proofs.Ytbnegiiombnnaaa
open Go.RowKit

/-- A number's bytes, the highest first. -/
def be (n size : Nat) : List UInt8 := (List.range size).map fun i => UInt8.ofNat (n / 256 ^ (size - 1 - i) % 256)
theorem be_len (n size : Nat) : (be n size).length = size := by simp [be]

theorem putter_any (w : World) (A : Option Addr) (n c : Nat) :
    Calls Try.prog 35 #[.slice A n c] w fun e w' => e = .returned (.func (.func 39) #[] #[.pointer (some ⟨w.heap.size, 0, none⟩)]) ∧ w' = w.alloc (.cells #[.slice A n c] 25) := by
  go_enter Try.func35, Try.ntmps35
  go_wp2_with fail
  go_ret
  exact ⟨rfl, rfl⟩
theorem taker_any (w : World) (A : Option Addr) (n c : Nat) :
    Calls Try.prog 38 #[.slice A n c] w fun e w' => e = .returned (.func (.func 41) #[] #[.pointer (some ⟨w.heap.size, 0, none⟩)]) ∧ w' = w.alloc (.cells #[.slice A n c] 25) := by
  go_enter Try.func38, Try.ntmps38
  go_wp2_with fail
  go_ret
  exact ⟨rfl, rfl⟩

/-- Bytes laid over a row one by one. -/
theorem patch_snoc {l m : List UInt8} {o : Nat} {c : UInt8} (h : o + m.length < l.length) : (patch l o m).set (o + m.length) c = patch l o (m ++ [c]) := by
  unfold patch
  have h1 : (l.take o).length = o := by rw [List.length_take]; omega
  rw [List.set_append_right _ _ (by omega), h1, List.set_append_right _ _ (by omega)]
  rw [List.drop_eq_getElem_cons h]
  simp [Nat.add_assoc, Nat.add_sub_cancel_left]

/-- A box of bytes in a block that is known whole. -/
def BoxB (w : World) (g B : Nat) (t : TypeId) (o n c : Nat) (l : List UInt8) : Prop :=
  Blk w g 25 #[.slice (some ⟨B, o, none⟩) n c] ∧ Blk w B t (cellsB l).toArray ∧ g ≠ B ∧ o + n ≤ l.length ∧ n ≤ c

theorem pow8 (j : Nat) : (2 : Int) ^ (8 * j) = ((256 ^ j : Nat) : Int) := by
  have h : (2 : Nat) ^ (8 * j) = 256 ^ j := by rw [Nat.pow_mul]
  rw [← h]; simp
theorem shr_byte (x j : Nat) : (x : Int) / 2 ^ (8 * j) % 256 = ((UInt8.ofNat (x / 256 ^ j % 256)).toNat : Int) := by
  rw [pow8, UInt8.toNat_ofNat']
  have h3 : ((x : Int) / ((256 ^ j : Nat) : Int)) = ((x / 256 ^ j : Nat) : Int) := by simp
  rw [h3]
  generalize x / 256 ^ j = y
  omega
theorem be_at (x s k : Nat) (hk : k < s) : (be x s).take (k + 1) = (be x s).take k ++ [UInt8.ofNat (x / 256 ^ (s - 1 - k) % 256)] := by
  rw [List.take_succ_eq_append_getElem (by rw [be_len]; exact hk)]
  simp [be]

theorem BoxB.put {w : World} {g B : Nat} {t : TypeId} {o n c : Nat} {l m : List UInt8} {q : UInt8} (h : BoxB w g B t o n c (patch l o m)) (hol : o + n ≤ l.length) (hm : m.length < n) :
    BoxB ((w.setCell ⟨B, o + m.length, none⟩ (.int .u8 (q.toNat : Int))).drew) g B t o n c (patch l o (m ++ [q])) := by
  obtain ⟨h1, h2, h3, h4, h5⟩ := h
  have hf : Fr (fun k => k = B) w (w.setCell ⟨B, o + m.length, none⟩ (.int .u8 (q.toNat : Int))) := (Fr.refl (fun k => k = B) w).setCell (p := ⟨B, o + m.length, none⟩) (.inl rfl) _
  have k1 := h1.keep hf h3
  refine ⟨k1, ?_, h3, by rw [patch_len (by simp; omega)]; exact hol, h5⟩
  have h6 := h2.set_ (o + m.length) (.int .u8 (q.toNat : Int))
  rw [← patch_snoc (by omega)]
  have h7 : Blk (w.setCell ⟨B, o + m.length, none⟩ (.int .u8 (q.toNat : Int))) B t (cellsB ((patch l o m).set (o + m.length) q)).toArray := by
    simpa [cellsB, List.map_set] using h6
  exact h7
theorem put_any {w : World} {g B : Nat} {t : TypeId} {o n c : Nat} {l : List UInt8} (h : BoxB w g B t o n c l) (x s : Nat) (hx : x ≤ 18446744073709551615) (hs : s ≤ 8) (hn : s < n) :
    Calls Try.prog 39 #[.int .u64 x, .int .i64 s, .pointer (some ⟨g, 0, none⟩)] w fun e w' => e = .returned (.tuple #[]) ∧ BoxB w' g B t (o + s) (n - s) (c - s) (patch l o (be x s)) ∧ Fr (fun k => k = g ∨ k = B) w w' := by
  obtain ⟨h1, h2, hne, hol, hnc⟩ := h
  have hc0 := h1.cell 0
  have hf0 := h1.frozen 0
  simp at hc0
  go_enter Try.func39, Try.ntmps39
  go_wp2_with fail
  go_loopw [7] (fun i wr => ∃ k : Nat, i = .int .i64 k ∧ k ≤ s ∧ BoxB wr g B t o n c (patch l o ((be x s).take k)) ∧ Fr (fun k => k = g ∨ k = B) w wr) (fun i _ => s - (intOf i).toNat)
  case atStart => exact ⟨0, rfl, Nat.zero_le _, ⟨h1, by simpa [patch] using h2, hne, by simpa [patch] using hol, hnc⟩, Fr.refl _ _⟩
  case round =>
    obtain ⟨k, rfl, hk, hbox, hfr⟩ := hrel
    have HB := Lib.hid hbox
    have HF := Lib.hid hfr
    clear hbox hfr h1 h2 hc0 hf0
    by_cases hlt : k < s
    · obtain ⟨j, hj⟩ : ∃ j, j = s - 1 - k := ⟨_, rfl⟩
      have e1 : ((s : Int) - 1 - (k : Int)) = (j : Int) := by omega
      have hc0 := HB.out.1.cell 0
      simp at hc0
      have hl := HB.out.2.2.2.1
      have hnk : k < n := by omega
      have hpl : (patch l o ((be x s).take k)).length = l.length := patch_len (by rw [List.length_take, be_len]; omega)
      have hcb : ∃ v, wr.cell? ⟨B, o + k, none⟩ = some v := by
        rw [HB.out.2.1.cell]
        exact ⟨_, Array.getElem?_eq_getElem (by simp [cellsB_len, hpl]; omega)⟩
      obtain ⟨vb, hvb⟩ := hcb
      have hfb := HB.out.2.1.frozen (o + k)
      have hi0 : (0 : Int) ≤ (k : Int) := by omega
      have hi1 : (k : Int) < (n : Int) := by omega
      clear hl
      go_wp2_with fail
      go_region
      go_wp2_with fail
      have hml : ((be x s).take k).length = k := by rw [List.length_take, be_len]; omega
      have hput := HB.out.put (q := UInt8.ofNat (x / 256 ^ (s - 1 - k) % 256)) hol (by rw [hml]; exact hnk)
      rw [hml, ← be_at x s k hlt, ← shr_byte] at hput
      exact ⟨⟨k + 1, by go_num, hlt, hput, (HF.out.setCell (p := ⟨B, o + k, none⟩) (.inl (.inr rfl)) _).drew⟩, by simp [intOf]; omega⟩
    · obtain rfl : k = s := by omega
      have hc0 := HB.out.1.cell 0
      have hf0 := HB.out.1.frozen 0
      simp at hc0
      have ht : (be x k).take k = be x k := by rw [List.take_of_length_le]; rw [be_len]; exact Nat.le_refl _
      rw [ht] at HB
      clear ht
      go_wp2_with fail
      go_end0
      obtain ⟨q1, q2, q3, q4, q5⟩ := HB.out
      have hf : Fr (fun i => i = g) wr (wr.setCell ⟨g, 0, none⟩ (.slice (some ⟨B, o + k, none⟩) (n - k) (c - k))) := (Fr.refl (fun i => i = g) wr).setCell (p := ⟨g, 0, none⟩) (.inl rfl) _
      exact ⟨rfl, ⟨q1.set_ 0 _, q2.keep hf (fun e => q3 e.symm), q3, by omega, by omega⟩, HF.out.setCell (p := ⟨g, 0, none⟩) (.inl (.inl rfl)) _⟩
/-- The number that bytes are, the highest first. -/
def numOf (l : List UInt8) : Nat := l.foldl (fun n c => n * 256 + c.toNat) 0
theorem numOf_from (l : List UInt8) : ∀ n, l.foldl (fun n c => n * 256 + c.toNat) n = n * 256 ^ l.length + numOf l := by
  induction l with
  | nil => intro n; simp [numOf]
  | cons c l ih =>
    intro n
    simp only [List.foldl_cons, List.length_cons, numOf]
    rw [ih, ih, Nat.zero_mul, Nat.zero_add, Nat.pow_succ', Nat.add_mul, Nat.mul_assoc, Nat.add_assoc]
theorem numOf_app (p q : List UInt8) : numOf (p ++ q) = numOf p * 256 ^ q.length + numOf q := by
  unfold numOf
  rw [List.foldl_append, numOf_from]
  rfl
theorem numOf_lt (l : List UInt8) : numOf l < 256 ^ l.length := by
  induction l with
  | nil => simp [numOf]
  | cons c l ih =>
    have e : c :: l = [c] ++ l := rfl
    rw [e, numOf_app]
    have hc := c.toNat_lt
    have h1 : numOf [c] = c.toNat := by simp [numOf]
    have h2 : ([c] ++ l).length = l.length + 1 := by simp
    rw [h1, h2, Nat.pow_succ']
    calc c.toNat * 256 ^ l.length + numOf l < c.toNat * 256 ^ l.length + 256 ^ l.length := by omega
      _ = (c.toNat + 1) * 256 ^ l.length := by rw [Nat.add_mul, Nat.one_mul]
      _ ≤ 256 * 256 ^ l.length := Nat.mul_le_mul_right _ (by omega)

theorem or_shift (a b k : Nat) (hb : b < 2 ^ k) (h : a * 2 ^ k + b < 18446744073709551616) : bits .or .u64 ((a : Int) * ((2 ^ k : Nat) : Int)) (b : Int) = ((a * 2 ^ k + b : Nat) : Int) := by
  have e : (a : Int) * ((2 ^ k : Nat) : Int) = ((a * 2 ^ k : Nat) : Int) := by rw [Int.natCast_mul]
  rw [e, u64_or_nat _ _ (by omega) (by omega)]
  congr 1
  rw [Nat.mul_comm, ← Nat.two_pow_add_eq_or_of_lt hb]

theorem take_snoc' {l : List UInt8} {k : Nat} {x : UInt8} (hx : l[k]? = some x) : l.take (k + 1) = l.take k ++ [x] := by
  rw [List.take_add_one, hx]; rfl
theorem numOf_step {l : List UInt8} {k s : Nat} {x : UInt8} (hx : l[k]? = some x) (hk : k < s) (hs : s ≤ 8) :
    bits BinOp.or IntKind.u64 (IntKind.u64.wrap ((numOf (l.take k) : Int) * 256)) (IntKind.u64.wrap (x.toNat : Int)) = ((numOf (l.take (k + 1)) : Nat) : Int) := by
  have h1 := numOf_lt (l.take k)
  have h2 : (l.take k).length ≤ 7 := by rw [List.length_take]; omega
  have h3 : 256 ^ (l.take k).length ≤ 256 ^ 7 := Nat.pow_le_pow_right (by omega) h2
  have hx8 := x.toNat_lt
  have e1 : IntKind.u64.wrap ((numOf (l.take k) : Int) * 256) = (numOf (l.take k) : Int) * ((2 ^ 8 : Nat) : Int) := by
    simp [IntKind.wrap, IntKind.signed, IntKind.bits]; omega
  have e2 : IntKind.u64.wrap (x.toNat : Int) = (x.toNat : Int) := by
    simp [IntKind.wrap, IntKind.signed, IntKind.bits]; omega
  rw [e1, e2, or_shift _ _ 8 hx8 (by omega), take_snoc' hx, numOf_app]
  have h4 : numOf [x] = x.toNat := by simp [numOf]
  rw [h4]
  rfl
/-- A box of bytes that are read. -/
def BoxR (w : World) (g : Nat) (A : Option Addr) (n c : Nat) (l : List UInt8) : Prop :=
  Blk w g 25 #[.slice A n c] ∧ Rd w A n l ∧ n ≤ c ∧ (A = none → c = 0) ∧ ∀ ad, A = some ad → ad.block ≠ g
theorem take_any {w : World} {g : Nat} {A : Option Addr} {n c : Nat} {l : List UInt8} (h : BoxR w g A n c l) (s : Nat) (hs : s ≤ 8) (hn : s ≤ n) :
    Calls Try.prog 41 #[.int .i64 s, .pointer (some ⟨g, 0, none⟩)] w fun e w' => e = .returned (.int .u64 (numOf (l.take s) : Nat)) ∧ (∃ A', BoxR w' g A' (n - s) (c - s) (l.drop s) ∧ ∀ ad, A' = some ad → ∃ ad0, A = some ad0 ∧ ad.block = ad0.block) ∧ Fr (fun k => k = g) w w' := by
  obtain ⟨h1, h2, hnc, hA, hne⟩ := h
  have hl := h2.len
  have hc0 := h1.cell 0
  simp at hc0
  have hst := slice_to (P := Try.prog) (t := 25) Try.underlying25 (fun w => by go_simp) h2 hnc s hn
  obtain ⟨A', hsf, hrf, hAf, hbf⟩ := slice_from (P := Try.prog) (t := 25) Try.underlying25 (fun w => by go_simp) h2 hnc hA s hn
  have hs1 := hst.1
  have HR := Lib.hid (And.intro h1 (And.intro h2 (And.intro hst.2 (And.intro hrf (And.intro hAf hbf)))))
  clear hst hrf hAf hbf h1 h2
  go_enter Try.func41, Try.ntmps41
  go_wp2_with fail
  go_loopw [4, 11] (fun m i wr => ∃ k : Nat, i = .int .i64 k ∧ k ≤ s ∧ m = .int .u64 (numOf (l.take k) : Nat) ∧ wr = w) (fun _ i _ => s - (intOf i).toNat)
  case atStart => exact ⟨0, rfl, Nat.zero_le _, rfl, rfl⟩
  case round =>
    obtain ⟨k, rfl, hk, rfl, rfl⟩ := hrel
    by_cases hlt : k < s
    · obtain ⟨ad, x, hA1, hx, hcell⟩ := HR.out.2.1.at_ (k := k) (by omega)
      subst hA1
      have hi0 : (0 : Int) ≤ (k : Int) := by omega
      have hi1 : (k : Int) < (s : Int) := by omega
      go_wp2_with fail
      exact ⟨⟨k + 1, by go_num, hlt, congrArg _ (numOf_step hx hlt hs), trivial⟩, by simp [intOf]; omega⟩
    · obtain rfl : k = s := by omega
      have hf0 := HR.out.1.frozen 0
      go_wp2_with fail
      go_ret
      obtain ⟨q1, q2, q3, q4, q5, q6⟩ := HR.out
      have hf : Fr (fun i => i = g) wr (wr.setCell ⟨g, 0, none⟩ (.slice A' (n - k) (c - k))) := (Fr.refl (fun i => i = g) wr).setCell (p := ⟨g, 0, none⟩) (.inl rfl) _
      have hne' : ∀ ad, A' = some ad → ad.block ≠ g := fun ad e => by
        obtain ⟨ad0, e0, e1⟩ := q6 ad e
        rw [e1]
        exact hne ad0 e0
      exact ⟨rfl, ⟨A', ⟨q1.set_ 0 _, q4.keep hf hne', by omega, q5, hne'⟩, q6⟩, hf⟩
end Go.Proofs.Ytbnegiiombnnaaa
