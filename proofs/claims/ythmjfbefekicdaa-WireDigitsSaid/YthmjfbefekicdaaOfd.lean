/- wire.OfDigits. -/
import Derived.Test.YthmjfbefekicdaaWor
import Derived.Test.YthmjfbefekicdaaCut
namespace Go.Proofs.Ythmjfbefekicdaa
open Go.RowKit

/-- Two digits are a byte. -/
def pair : List UInt8 → List UInt8
  | a :: b :: r => UInt8.ofNat (a.toNat * 16 + b.toNat) :: pair r
  | _ => []
theorem pair_at : ∀ (l : List UInt8) (k : Nat) (a b : UInt8), l[2 * k]? = some a → l[2 * k + 1]? = some b → (pair l)[k]? = some (UInt8.ofNat (a.toNat * 16 + b.toNat))
  | [], k, a, b, h, _ => by simp at h
  | [x], k, a, b, _, h => by simp at h
  | x :: y :: l, 0, a, b, h1, h2 => by
    obtain rfl : x = a := by simpa using h1
    obtain rfl : y = b := by simpa using h2
    rfl
  | x :: y :: l, k + 1, a, b, h1, h2 => by
    rw [show 2 * (k + 1) = 2 * k + 1 + 1 by omega] at h1 h2
    simp only [List.getElem?_cons_succ] at h1 h2
    exact pair_at l k a b h1 h2
theorem pair_len : ∀ (l : List UInt8), (pair l).length = l.length / 2
  | [] => rfl
  | [x] => by simp [pair]
  | x :: y :: l => by simp only [pair, List.length_cons, pair_len l]; omega
theorem dv_lt (c : UInt8) (h : isD 16 c = true) : (dv c).toNat < 16 := by
  unfold isD isDig at h
  unfold dv
  simp at h
  split <;> rw [UInt8.toNat_ofNat'] <;> omega
theorem wl_lt (l : List UInt8) : ∀ (k : Nat) (a : UInt8), (wl 16 l)[k]? = some a → a.toNat < 16 := by
  intro k a h
  unfold wl at h
  rw [List.getElem?_map, Option.map_eq_some_iff] at h
  obtain ⟨c, hc, rfl⟩ := h
  have hm := List.mem_of_getElem? hc
  exact dv_lt c (List.all_eq_true.mp List.all_takeWhile c hm)
theorem or_nib (a b : Nat) (ha : a < 16) (hb : b < 16) : bits .or .u8 ((a : Int) * 16) (b : Int) = ((a * 16 + b : Nat) : Int) := by
  have key : ∀ a b : Fin 16, bits .or .u8 ((a.val : Int) * 16) (b.val : Int) = ((a.val * 16 + b.val : Nat) : Int) := by decide +kernel
  exact key ⟨a, ha⟩ ⟨b, hb⟩

set_option maxHeartbeats 1000000 in
theorem ofd_bad (s : ByteArray) (hs : s.size ≤ 10000) (h : (wl 16 s.data.toList).length = s.data.toList.length → (wl 16 s.data.toList).length % 2 = 1) (w : World) :
    Calls Try.prog 36 #[.string s] w fun e w' => e = .returned (.tuple #[.slice none 0 0, .int .i64 4]) ∧ Fr (fun _ => False) w w' := by
  have HC := Lib.hid (worths16 s hs w)
  unfold Worths at HC
  clear hs
  generalize wl 16 s.data.toList = W at *
  generalize s.data.toList.length = N at *
  by_cases hb : ((W.length : Int) == (N : Int)) = true
  · have h1 := h (by rw [beq_iff_eq] at hb; omega)
    rw [hb] at HC
    clear hb h
    go_enter Try.func36, Try.ntmps36
    go_wp2_with fail
    refine HC.out.mono ?_
    rintro e w1 ⟨v, rfl, hm⟩
    obtain ⟨Aw, cw, rfl, _, hcw, hcm, _⟩ := own_rd hm.1
    have HM := Lib.hid hm.2
    have hcw' := Nat.le_trans hcw hcm
    unfold maxLen at hcw'
    clear hm hcw hcm
    go_wp2
    go_ret2
    exact ⟨rfl, HM.out⟩
  · have hb' : ((W.length : Int) == (N : Int)) = false := by simpa using hb
    rw [hb'] at HC
    clear hb hb' h
    go_enter Try.func36, Try.ntmps36
    go_wp2_with fail
    refine HC.out.mono ?_
    rintro e w1 ⟨v, rfl, hm⟩
    have HM := Lib.hid hm.2
    clear hm
    go_wp2
    go_ret2
    exact ⟨rfl, HM.out⟩

theorem own_head {w : World} {base e size n c m : Nat} {ad : Addr} {xs : List Value} (h : w.ownsRow base e size (.slice (some ad) n c) m xs) : ∃ g, ad = ⟨g, 0, none⟩ := by
  rcases h.2 with ⟨h, _⟩ | ⟨g, cap, cur, h, _⟩
  · cases h
  · injection h with h _ _
    injection h with h
    exact ⟨g, h⟩
theorem add_head (g n : Nat) : (⟨g, 0, none⟩ : Addr).add n = ⟨g, n, none⟩ := by
  unfold Addr.add
  split <;> simp_all

/-- Where the loop stands: k bytes are laid. -/
def OfdAt (w : World) (g m : Nat) (P : List UInt8) (k : Nat) : Prop :=
  ∃ cs, Blk w g 5 cs ∧ cs.size = m ∧ ∀ j, j < m → cs[j]? = some (.int .u8 (if j < k then ((P.getD j 0).toNat : Int) else 0))

theorem OfdAt.step {w : World} {g m k : Nat} {P : List UInt8} {a b : UInt8} {cs : Array Value} (hb : Blk w g 5 cs) (hs : cs.size = m) (hc : ∀ j, j < m → cs[j]? = some (.int .u8 (if j < k then ((P.getD j 0).toNat : Int) else 0)))
    (hk : k < m) (hp : P[k]? = some (UInt8.ofNat (a.toNat * 16 + b.toNat))) (ha : a.toNat < 16) (hb' : b.toNat < 16) :
    OfdAt (w.setCell ⟨g, k, none⟩ (.int .u8 ((a.toNat : Int) * 16 + (b.toNat : Int)))).drew g m P (k + 1) := by
  refine ⟨_, hb.set_ k _, by simp [hs], fun j hj => ?_⟩
  rw [Array.getElem?_setIfInBounds]
  split
  · rename_i e
    subst e
    rw [if_pos (by omega), if_pos (by omega)]
    have e1 : P.getD k 0 = UInt8.ofNat (a.toNat * 16 + b.toNat) := by rw [List.getD_eq_getElem?_getD, hp]; rfl
    rw [e1, UInt8.toNat_ofNat']
    congr 2
    omega
  · rw [hc j hj]
    by_cases h1 : j < k
    · rw [if_pos h1, if_pos (by omega)]
    · rw [if_neg h1, if_neg (by omega)]

set_option maxHeartbeats 2000000 in
set_option maxRecDepth 100000 in
theorem ofd_ok (s : ByteArray) (hs : s.size ≤ 10000) (h : (wl 16 s.data.toList).length = s.data.toList.length) (h2 : (wl 16 s.data.toList).length % 2 = 0) (w : World) :
    Calls Try.prog 36 #[.string s] w fun e w' => ∃ v, e = .returned (.tuple #[v, .int .i64 0]) ∧ Makes w (pair (wl 16 s.data.toList)) v w' := by
  obtain ⟨i0, hi, hz0, hz1, hz2⟩ := info_parts infoU8
  have HC := Lib.hid (worths16 s hs w)
  unfold Worths at HC
  have hWl := Lib.hid (wl_lt s.data.toList)
  have hsz : s.data.toList.length ≤ 10000 := by rw [Array.length_toList]; exact hs
  clear hs
  generalize wl 16 s.data.toList = W at *
  rw [show ((W.length : Int) == (s.data.toList.length : Int)) = true by rw [beq_iff_eq]; omega] at HC
  have hn : W.length ≤ 10000 := by omega
  clear hsz h
  have hmk : ∀ u : World, (Instr.makeSlice 26 (.int .i64 ((W.length : Int) / 2)) (.int .i64 ((W.length : Int) / 2))).run Try.prog u =
      .ok (.slice (some ⟨u.heap.size, 0, none⟩) (W.length / 2) (W.length / 2)) (u.alloc (.cells (madeCells #[.int .u8 0] (W.length / 2)) 5)) := fun u => by
    have h := run_make (P := Try.prog) u 26 5 i0 (.int .u8 0) Try.underlying26 hi hz0 .i64 .i64 ((W.length : Int) / 2) ((W.length : Int) / 2) (by omega) (by omega) (by rw [hz2]; omega) (by omega)
    have e : ((W.length : Int) / 2).toNat = W.length / 2 := by omega
    simpa [hz1, Value.cells, e] using h
  have hmc : ∀ j, j < W.length / 2 → (madeCells #[Value.int .u8 0] (W.length / 2))[j]? = some (.int .u8 0) := by
    intro j hj
    rw [← Array.getElem?_toList, toList_madeCells_one, List.getElem?_replicate, if_pos hj]
  go_enter Try.func36, Try.ntmps36
  go_wp2_with fail
  refine HC.out.mono ?_
  rintro e w1 ⟨v, rfl, hm⟩
  obtain ⟨Aw, cw, rfl, _, hcw, hcm, hrw⟩ := own_rd hm.1
  have HM := Lib.hid (And.intro hm.2 (And.intro hrw hm.1))
  clear hm hcw hcm hrw
  have HMC := Lib.hid hmc
  clear hmc
  have hst : OfdAt (w1.alloc (.cells (madeCells #[.int .u8 0] (W.length / 2)) 5)) w1.heap.size (W.length / 2) (pair W) 0 :=
    ⟨_, Blk.new _ _ _, size_madeCells _ _, fun j hj => by rw [HMC.out j hj, if_neg (by omega)]⟩
  have HST := Lib.hid hst
  clear hst
  have hpl := Lib.hid (pair_len W)
  go_wp2_with fail
  go_loopw [27] (fun i wr => ∃ (k : Nat), i = .int .i64 k ∧ k ≤ W.length / 2 ∧ Hid (OfdAt wr w1.heap.size (W.length / 2) (pair W) k) ∧ Hid (Fr (fun _ => False) w1 wr)) (fun i _ => W.length / 2 - (intOf i).toNat)
  case atStart => exact ⟨0, rfl, Nat.zero_le _, HST, Lib.hid ((Fr.refl _ _).alloc _)⟩
  case round =>
    obtain ⟨k, rfl, hk, HO, HF⟩ := hrel
    by_cases hlt : k < W.length / 2
    · have hrw := HM.out.2.1.keep HF.out (fun _ _ => id)
      obtain ⟨ad, a, rfl, ha, hca⟩ := hrw.at_ (k := 2 * k) (by omega)
      obtain ⟨ad', b, e', hb, hcb⟩ := hrw.at_ (k := 2 * k + 1) (by omega)
      injection e' with e'
      subst e'
      obtain ⟨gw, rfl⟩ := own_head HM.out.2.2
      rw [add_head] at hca hcb
      have ha16 := hWl.out _ _ ha
      have hb16 := hWl.out _ _ hb
      have hpk := Lib.hid (pair_at W k a b ha hb)
      have hor := or_nib a.toNat b.toNat ha16 hb16
      obtain ⟨cs, hblk, hcs, hat⟩ := HO.out
      have hck := (hblk.cell k).trans (hat k hlt)
      rw [if_neg (by omega)] at hck
      have hfk := hblk.frozen k
      have HB := Lib.hid (And.intro hblk (And.intro hcs hat))
      clear hrw ha hb hblk hcs hat
      go_wp2_with fail
      go_region
      all_goals
        go_wp2_with fail
        refine ⟨⟨k + 1, by go_num, by omega, Lib.hid (OfdAt.step (w := wr) HB.out.1 HB.out.2.1 HB.out.2.2 hlt hpk.out ha16 hb16), Lib.hid (HF.out.trans (((Fr.refl (fun i => i = w1.heap.size) wr).setCell (p := ⟨w1.heap.size, k, none⟩) (.inl rfl) _).drew) (fun i hi e => by omega))⟩, by simp [intOf]; omega⟩
    · obtain rfl : k = W.length / 2 := by omega
      clear hlt
      go_wp2
      go_ret2
      obtain ⟨cs, hblk, hcs, hat⟩ := HO.out
      refine ⟨_, rfl, ⟨by rw [cellsB_len, Nat.mul_one], .inr ⟨w1.heap.size, W.length / 2, cs, ?_, HM.out.1.size, hblk, by rw [hpl.out]; exact Nat.le_refl _, by unfold maxLen; omega, by omega, ?_⟩⟩, HM.out.1.trans HF.out (fun _ _ => id)⟩
      · rw [hpl.out]
        rfl
      · apply List.ext_getElem?
        intro j
        rw [List.getElem?_take, hpl.out, Nat.mul_one]
        split
        · rename_i hj
          rw [Array.getElem?_toList, hat j hj, if_pos hj]
          have hjl : j < (pair W).length := by rw [hpl.out]; exact hj
          simp [cellsB, hjl]
        · rw [List.getElem?_eq_none (by rw [cellsB_len, hpl.out]; omega)]
end Go.Proofs.Ythmjfbefekicdaa
