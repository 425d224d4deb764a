/- couponref13: put. -/
import Derived.Test.YtmopkfjnjbimnaaKla
namespace Go.Proofs.Ytmopkfjnjbimnaa
open Go.RowKit

/-- Bytes of one's own. -/
def OwB (w : World) (B : Nat) (v : Value) (l : List UInt8) : Prop := w.ownsRow B 5 1 v l.length (cellsB l)
theorem OwB.nil (w : World) (B : Nat) : OwB w B (.slice none 0 0) [] := World.ownsRow_nil _ _ _ _
theorem OwB.keep {w w' : World} {B : Nat} {v : Value} {l : List UInt8} (h : OwB w B v l) {F : Nat → Prop} (f : Fr F w w') (hF : ∀ k, v.ownBlock = some k → ¬ F k) : OwB w' B v l := own_keep h f hF
theorem OwB.keep0 {w w' : World} {B : Nat} {v : Value} {l : List UInt8} (h : OwB w B v l) (f : Fr (fun _ => False) w w') : OwB w' B v l := own_keep h f (fun _ _ q => q)
theorem OwB.low {w : World} {B k : Nat} {v : Value} {l : List UInt8} (h : OwB w B v l) (hk : v.ownBlock = some k) : B ≤ k ∧ k < w.heap.size := by
  obtain ⟨-, h | ⟨g, c, cs, rfl, h1, h2, -⟩⟩ := h
  · obtain ⟨rfl, -⟩ := h
    cases hk
  · injection hk with hk
    subst hk
    exact ⟨h1, Blk.lt h2⟩
/-- What a writer of bytes does: its row grows, and nothing else that was there turns. -/
def PutB (w : World) (B : Nat) (v : Value) (l : List UInt8) (v' : Value) (w' : World) : Prop :=
  OwB w' B v' l ∧ Fr (fun k => v.ownBlock = some k) w w' ∧ ∀ k, v'.ownBlock = some k → v.ownBlock = some k ∨ w.heap.size ≤ k
set_option maxRecDepth 100000 in
set_option maxHeartbeats 1000000 in
theorem rputb_any {w : World} {B : Nat} {v : Value} {l : List UInt8} (h : OwB w B v l) (hl : l.length ≤ 100000) (hB : B ≤ w.heap.size) (n : Nat) (hn : n ≤ 18446744073709551615) (s : Int) (hs : numOk n s = true) (hs8 : s.toNat ≤ 8) :
    Calls Try.prog 49 #[v, .int .u64 (n : Nat), .int .i64 s] w fun e w' => ∃ v', e = .returned v' ∧ PutB w B v (l ++ be n s.toNat) v' w' := by
  have HN := Lib.hid (rnum_any n hn s hs w)
  have HO := Lib.hid h
  obtain ⟨i0, hi, hz0, hz1, hz2⟩ := info_parts infoU8
  obtain ⟨A, m, c, hv⟩ := own_form h
  have HL := Lib.hid hl
  have HBB := Lib.hid hB
  clear h hl hB
  subst hv
  go_enter Try.func49, Try.ntmps49
  go_wp2_with fail
  refine HN.out.mono ?_
  rintro e w1 ⟨x, rfl, hx⟩
  obtain ⟨hx1, hx2⟩ := hx
  obtain ⟨Ax, cx, rfl, _, _, _, hrx⟩ := own_rd hx1
  obtain ⟨mm, hmm⟩ : ∃ mm, mm = (be n s.toNat).length := ⟨_, rfl⟩
  have HR : Hid (Rd w1 Ax mm (be n s.toNat)) := Lib.hid (by rw [hmm]; exact hrx)
  have HM8 : Hid (mm ≤ 8) := Lib.hid (by rw [hmm, be_len]; exact hs8)
  have HO1 := Lib.hid (HO.out.keep0 hx2)
  have HF1 := Lib.hid hx2
  rw [← hmm]
  clear hx1 hx2 hrx hmm
  go_wp2_with (at_builtin; refine wpList_append_bytes _ rfl (.tmp 15) (.tmp 16) 31 rfl B 5 i0 (.int .u8 0) Try.underlying31 hi hz0 hz1 hz2 rfl _ l (be n s.toNat) rfl HO1.out Ax mm cx rfl HR.out (by have := HM8.out; have := HL.out; omega) (Nat.le_trans HBB.out HF1.out.size) ?_; intro v3 w3 ho3 hg3 hat3; have HG := Lib.hid (And.intro ho3 (And.intro hg3 hat3)); clear ho3 hg3 hat3)
  go_ret
  refine ⟨v3, rfl, HG.out.1, (HF1.out.mono (fun _ _ q => q.elim)).grown HG.out.2.1 (fun k hk => .inl hk), fun k hk => ?_⟩
  rcases HG.out.2.2 with e | e
  · exact .inl (e ▸ hk)
  · rw [e] at hk
    injection hk with hk
    exact .inr (hk ▸ HF1.out.size)
end Go.Proofs.Ytmopkfjnjbimnaa
