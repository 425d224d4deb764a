/- Numbers put by a writer of package wire. -/
import Derived.Test.YtmjkcjllpnpgpaaWr
namespace Go.Proofs.Ytmjkcjllpnpgpaa
open Go.RowKit

/-- May a number's size be? -/
def maySz (s : Int) : Bool := s == 1 || s == 2 || s == 4 || s == 8

theorem maySize_yes (s : Int) (h : maySz s = true) (w : World) : Calls Try.prog 51 #[.int .i64 s] w fun e w' => e = .returned (.bool true) ∧ w = w' := by
  have hs : s = 1 ∨ s = 2 ∨ s = 4 ∨ s = 8 := by simpa [maySz, or_assoc] using h
  rcases hs with rfl | rfl | rfl | rfl
  all_goals
    go_enter Try.func51, Try.ntmps51
    go_wp2
    go_ret
    exact ⟨rfl, rfl⟩
theorem maySize_no (s : Int) (h : maySz s = false) (w : World) : Calls Try.prog 51 #[.int .i64 s] w fun e w' => e = .returned (.bool false) ∧ w = w' := by
  have h1 : (s == 1) = false := by cases h1 : s == 1 <;> simp_all [maySz]
  have h2 : (s == 2) = false := by cases h1 : s == 2 <;> simp_all [maySz]
  have h3 : (s == 4) = false := by cases h1 : s == 4 <;> simp_all [maySz]
  have h4 : (s == 8) = false := by cases h1 : s == 8 <;> simp_all [maySz]
  clear h
  go_enter Try.func51, Try.ntmps51
  go_wp2
  go_ret
  exact ⟨rfl, rfl⟩

/-- The i-th byte of the array that is filled, k of them filled. -/
def beB (n k i : Nat) : Int := if i < k then ((n / 256 ^ (7 - i) % 256 : Nat) : Int) else 0
def beArr (n k : Nat) : Array Value := #[.int .u8 (beB n k 0), .int .u8 (beB n k 1), .int .u8 (beB n k 2), .int .u8 (beB n k 3), .int .u8 (beB n k 4), .int .u8 (beB n k 5), .int .u8 (beB n k 6), .int .u8 (beB n k 7)]

/-- The bytes of a number of a size, its highest one first. -/
def be (n size : Nat) : List UInt8 := (List.range size).map fun i => UInt8.ofNat (n / 256 ^ (size - 1 - i) % 256)

/-- What fits a size. -/
def fitsB (n : Nat) (s : Nat) : Prop := (s = 1 ∧ n < 256) ∨ (s = 2 ∧ n < 65536) ∨ (s = 4 ∧ n < 4294967296) ∨ s = 8

theorem be_len (n size : Nat) : (be n size).length = size := by simp [be]
theorem rd_be {w : World} {n s : Nat} (hs : fitsB n s) : Rd (w.alloc (.cells (beArr n 8) 91)) (some ⟨w.heap.size, 8 - s, none⟩) s (be n s) := by
  refine ⟨be_len n s, fun _ => ⟨_, rfl, fun j c hj => ?_⟩⟩
  have hb := Blk.new w 91 (beArr n 8)
  have hjs : j < s := by
    have := (List.getElem?_eq_some_iff.1 hj).1
    rwa [be_len] at this
  have hadd : (⟨w.heap.size, 8 - s, none⟩ : Addr).add j = ⟨w.heap.size, 8 - s + j, none⟩ := by unfold Addr.add; split <;> simp_all
  rw [hadd, hb.cell]
  simp only [be, List.getElem?_map, List.getElem?_range hjs, Option.map_some, Option.some.injEq] at hj
  subst hj
  rcases hs with ⟨rfl, h⟩ | ⟨rfl, h⟩ | ⟨rfl, h⟩ | rfl
  · have : j = 0 := by omega
    subst this
    simp [beArr, beB, UInt8.toNat_ofNat']
  · have : j = 0 ∨ j = 1 := by omega
    rcases this with rfl | rfl <;> simp [beArr, beB, UInt8.toNat_ofNat']
  · have : j = 0 ∨ j = 1 ∨ j = 2 ∨ j = 3 := by omega
    rcases this with rfl | rfl | rfl | rfl <;> simp [beArr, beB, UInt8.toNat_ofNat']
  · have : j = 0 ∨ j = 1 ∨ j = 2 ∨ j = 3 ∨ j = 4 ∨ j = 5 ∨ j = 6 ∨ j = 7 := by omega
    rcases this with rfl | rfl | rfl | rfl | rfl | rfl | rfl | rfl <;> simp [beArr, beB, UInt8.toNat_ofNat']

set_option maxHeartbeats 2000000 in
theorem number_any {w : World} {B g : Nat} {v : Value} {xs : List UInt8} (h : Wr w B g v xs false) (n s : Nat) (hs : fitsB n s) (hn : n ≤ 18446744073709551615) (hb : xs.length + 8 ≤ 140737488355328) :
    Calls Try.prog 25 #[.pointer (some ⟨g, 0, none⟩), .int .u64 n, .int .i64 s] w fun e w' => e = .returned (.pointer (some ⟨g, 0, none⟩)) ∧
      ∃ v', Wr w' B g v' (xs ++ be n s) false ∧ Fr (WrF g v) w w' ∧ (v'.ownBlock = v.ownBlock ∨ ∀ k, v'.ownBlock = some k → w.heap.size ≤ k) := by
  have hrd := Lib.hid (rd_be (w := w) hs)
  have hw1 : Wr (w.alloc (.cells (beArr n 8) 91)) B g v xs false := h.keep (F := fun _ => False) ((Fr.refl _ _).alloc _) (fun _ _ => id)
  have hlt : ∀ k, WrF g v k → k < w.heap.size := by
    rintro k (rfl | hk)
    · exact h.blk.lt
    · exact (h.own.lt k hk).2
  unfold fitsB at hs
  rcases hs with ⟨rfl, hs⟩ | ⟨rfl, hs⟩ | ⟨rfl, hs⟩ | rfl
  all_goals
    go_enter Try.func25, Try.ntmps25
    go_wp2_with fail
    refine (maySize_yes _ rfl _).mono ?_
    rintro e w' ⟨rfl, rfl⟩
    go_wp2_with fail
    go_loopw [21] (fun i wr => ∃ k : Nat, k ≤ 8 ∧ i = .int .i64 k ∧ wr = w.alloc (.cells (beArr n k) 91)) (fun i _ => 8 - (intOf i).toNat)
    case atStart => exact ⟨0, by omega, rfl, rfl⟩
    case round =>
      obtain ⟨k, hk, rfl, rfl⟩ := hrel
      have hk' : k = 0 ∨ k = 1 ∨ k = 2 ∨ k = 3 ∨ k = 4 ∨ k = 5 ∨ k = 6 ∨ k = 7 ∨ k = 8 := by omega
      clear hk
      rcases hk' with rfl | rfl | rfl | rfl | rfl | rfl | rfl | rfl | rfl
      rotate_right
      · go_wp2_with fail
        refine (bytes_any hw1 hrd.out (by omega)).mono ?_
        rintro e w' ⟨rfl, v', h1, h2, h3⟩
        go_wp2_with fail
        go_ret
        refine ⟨rfl, v', h1, ((Fr.refl _ w).alloc _).trans h2 (fun _ _ => id), h3.imp id (fun e k hk => ?_)⟩
        rw [hk] at e
        injection e with e
        rw [e]
        simp
      all_goals
        unfold beArr
        go_wp2_with fail
        first
          | refine ⟨⟨1, by omega, rfl, congrArg (fun a => World.alloc w (.cells a 91)) ?_⟩, by simp [intOf]⟩
          | refine ⟨⟨2, by omega, rfl, congrArg (fun a => World.alloc w (.cells a 91)) ?_⟩, by simp [intOf]⟩
          | refine ⟨⟨3, by omega, rfl, congrArg (fun a => World.alloc w (.cells a 91)) ?_⟩, by simp [intOf]⟩
          | refine ⟨⟨4, by omega, rfl, congrArg (fun a => World.alloc w (.cells a 91)) ?_⟩, by simp [intOf]⟩
          | refine ⟨⟨5, by omega, rfl, congrArg (fun a => World.alloc w (.cells a 91)) ?_⟩, by simp [intOf]⟩
          | refine ⟨⟨6, by omega, rfl, congrArg (fun a => World.alloc w (.cells a 91)) ?_⟩, by simp [intOf]⟩
          | refine ⟨⟨7, by omega, rfl, congrArg (fun a => World.alloc w (.cells a 91)) ?_⟩, by simp [intOf]⟩
          | refine ⟨⟨8, by omega, rfl, congrArg (fun a => World.alloc w (.cells a 91)) ?_⟩, by simp [intOf]⟩
        simp [beB]
        try omega
end Go.Proofs.Ytmjkcjllpnpgpaa
