/- A row's pieces, laid out. -/
import Derived.Test.YtbnegiiombnnaaaRnd
import Derived.Laws.MakeOwn
namespace Go.Proofs.Ytbnegiiombnnaaa
open Go.RowKit

theorem infoU8 : (Try.prog.info? 5).map (fun i => (i.zero, i.size, i.bytes)) = some (some (.int .u8 0), 1, 1) := by kernel_rfl
theorem infoSec : (Try.prog.info? 37).map (fun i => (i.zero, i.size, i.bytes)) = some (some (av (nought 128)), 128, 128) := by kernel_rfl
/-- A row's bytes: the length, the bytes, noughts. -/
def padB (b : List UInt8) : List UInt8 := be b.length 4 ++ (b ++ nought (many b.length * 48 - 4 - b.length))
theorem padB_len (b : List UInt8) : (padB b).length = many b.length * 48 := by
  simp [padB, be_len, nought_len, many]; omega

theorem made_bytes (z : Array Value) (k N : Nat) (hz : z = (cellsB (nought k)).toArray) (hk : 0 < k) : madeCells z N = (cellsB (nought N)).toArray := by
  subst hz
  apply Array.ext
  · simp [madeCells, cellsB, nought]
  · intro i h1 h2
    have h3 : i % k < k := Nat.mod_lt _ hk
    simp [madeCells, cellsB, nought, h3]
theorem make_bytes (W : World) (N : Nat) (hN : N ≤ 1000000) : (Instr.makeSlice 25 (.int .i64 (N : Nat)) (.int .i64 (N : Nat))).run Try.prog W = .ok (.slice (some ⟨W.heap.size, 0, none⟩) N N) (W.alloc (.cells (cellsB (nought N)).toArray 5)) := by
  obtain ⟨i0, hi, hz0, hz1, hz2⟩ := info_parts infoU8
  have h := run_make (P := Try.prog) W 25 5 i0 (.int .u8 0) Try.underlying25 hi hz0 .i64 .i64 N N (by omega) (by omega) (by rw [hz2]; omega) (by omega)
  rw [h, hz1, made_bytes (Value.int .u8 0).cells 1 _ rfl (by omega)]
  simp
theorem make_sectors (W : World) (N : Nat) (hN : N ≤ 1000000) : (Instr.makeSlice 27 (.int .i64 (N : Nat)) (.int .i64 (N : Nat))).run Try.prog W = .ok (.slice (some ⟨W.heap.size, 0, none⟩) N N) (W.alloc (.cells (cellsB (nought (N * 128))).toArray 37)) := by
  obtain ⟨i0, hi, hz0, hz1, hz2⟩ := info_parts infoSec
  have h := run_make (P := Try.prog) W 27 37 i0 (av (nought 128)) Try.underlying27 hi hz0 .i64 .i64 N N (by omega) (by omega) (by rw [hz2]; omega) (by omega)
  rw [h, hz1, made_bytes (av (nought 128)).cells 128 _ rfl (by omega)]
  simp

theorem padB_eq {b : List UInt8} {m : Nat} (hm : m = many b.length) : patch (patch (nought (m * 48)) 0 (be b.length 4)) 4 b = padB b := by
  have hmm : b.length + 4 ≤ m * 48 := by rw [hm]; unfold many; omega
  have h0 : patch (nought (m * 48)) 0 (be b.length 4) = be b.length 4 ++ nought (m * 48 - 4) := by
    have := patch_app [] (nought (m * 48)) (be b.length 4)
    simpa [be_len, nought_drop] using this
  have h1 := patch_app (be b.length 4) (nought (m * 48 - 4)) b
  rw [be_len, nought_drop] at h1
  rw [h0, h1, hm]
  rfl
theorem pieces_any {w : World} {A : Option Addr} {n c : Nat} {b : List UInt8} (hr : Rd w A n b) (hn : n ≤ 32768) :
    Calls Try.prog 23 #[.slice A n c] w fun e w' => ∃ Bs R cap, e = .returned (.func (.func 36) #[] #[.pointer (some ⟨Bs, 0, none⟩)]) ∧
      Blk w' Bs 25 #[.slice (some ⟨R, 0, none⟩) (many n * 48) cap] ∧ many n * 48 ≤ cap ∧ Blk w' R 5 (cellsB (padB b)).toArray ∧ w.heap.size ≤ Bs ∧ w.heap.size ≤ R ∧ Fr (fun _ => False) w w' := by
  have hm : many n ≤ 1000 := by unfold many; omega
  have hmm : 1 ≤ many n ∧ n + 4 ≤ many n * 48 := by unfold many; omega
  have HM := Lib.hid (halvesFor_any w n (by omega))
  have HR := Lib.hid hr
  clear hr
  obtain ⟨m, hM⟩ : ∃ m, m = many n := ⟨_, rfl⟩
  rw [← hM] at HM hm hmm ⊢
  have HMM := Lib.hid hM
  clear hM
  go_enter Try.func23, Try.ntmps23
  go_wp2_with fail
  (with_reducible refine HM.out.mono ?_)
  rintro e w1 ⟨rfl, rfl⟩
  have hmk := make_bytes w (m * 48) (by omega)
  have hcm : ((m * 48 : Nat) : Int) = (m : Int) * 48 := by omega
  rw [hcm] at hmk
  have hk0 : Blk ((w.alloc (.cells (cellsB (nought (m * 48))).toArray 5)).alloc (.cells #[.slice (some ⟨w.heap.size, 0, none⟩) (m * 48) (m * 48)] 25)) w.heap.size 5 (cellsB (nought (m * 48))).toArray := (Blk.new w _ _).keep (F := fun _ => False) ((Fr.refl _ _).alloc _) (fun q => q)
  have hk1 := Blk.new (w.alloc (.cells (cellsB (nought (m * 48))).toArray 5)) 25 #[.slice (some ⟨w.heap.size, 0, none⟩) (m * 48) (m * 48)]
  have hf0 : Fr (fun _ => False) w ((w.alloc (.cells (cellsB (nought (m * 48))).toArray 5)).alloc (.cells #[.slice (some ⟨w.heap.size, 0, none⟩) (m * 48) (m * 48)] 25)) := ((Fr.refl _ w).alloc _).alloc _
  have H0 := Lib.hid (And.intro hk0 (And.intro hk1 hf0))
  clear hk0 hk1 hf0
  go_wp2_with fail
  refine (putter_is _ _ (m * 48) _ _ H0.out.1 (by rw [nought_len])).mono ?_
  rintro e w2 ⟨rfl, hb2, hf2⟩
  have hsz : (w.alloc (.cells (cellsB (nought (m * 48))).toArray 5)).heap.size = w.heap.size + 1 := by simp
  have hgs : w.heap.size + 2 ≤ ((w.alloc (.cells (cellsB (nought (m * 48))).toArray 5)).alloc (.cells #[.slice (some ⟨w.heap.size, 0, none⟩) (m * 48) (m * 48)] 25)).heap.size := by simp
  rw [hsz] at H0
  generalize ((w.alloc (.cells (cellsB (nought (m * 48))).toArray 5)).alloc (.cells #[.slice (some ⟨w.heap.size, 0, none⟩) (m * 48) (m * 48)] 25)).heap.size = G at *
  have H2 := Lib.hid (And.intro hb2 (And.intro (H0.out.2.1.keep hf2 (fun q => q)) (H0.out.2.2.trans hf2 (fun _ _ q => q))))
  clear hb2 hf2 hsz H0 hmk
  go_wp2_with fail
  refine (put_any H2.out.1 n 4 (by omega) (by omega) (by omega)).mono ?_
  rintro e w3 ⟨rfl, hb3, hf3⟩
  have j1 := H2.out.2.1.keep hf3 (by omega)
  have c0 := j1.cell 0
  simp at c0
  have H3 := Lib.hid (And.intro hb3 (And.intro j1 (H2.out.2.2.trans hf3 (fun i hi q => by omega))))
  clear hb3 hf3 j1
  have hrn := HR.out.len
  have hpl : (patch (nought (m * 48)) 0 (be n 4)).length = m * 48 := by rw [patch_len] <;> simp [be_len, nought_len]; omega
  have hcp : ∃ w4, (∀ ty, (Builtin.copy_ #[25, 25] ty #[.slice (some ⟨w.heap.size, 4, none⟩) (m * 48 - 4) (m * 48 - 4), .slice A n c]).run Try.prog w3 = .ok (goInt n) w4) ∧ Blk w4 w.heap.size 5 (cellsB (padB b)).toArray ∧ Fr (fun k => k = w.heap.size) w3 w4 := by
    have hpe := padB_eq (b := b) (m := m) (by rw [HMM.out, hrn])
    rw [hrn] at hpe
    rcases Nat.eq_zero_or_pos n with h0 | h0
    · subst h0
      have hb0 : b = [] := List.eq_nil_of_length_eq_zero hrn
      refine ⟨w3, fun ty => run_copy_none w3 25 25 ty 5 _ A _ _ 0 c Try.underlying25 (by kernel_rfl) (Nat.zero_min _), ?_, Fr.refl _ _⟩
      rw [← hpe, hb0]
      have : patch (patch (nought (m * 48)) 0 (be 0 4)) 4 [] = patch (nought (m * 48)) 0 (be 0 4) := by simp [patch]
      rw [this]
      exact H3.out.1.2.1
    · obtain ⟨ad, hA, hcell⟩ := (HR.out.keep H3.out.2.2 (fun _ _ q => q)).2 h0
      subst hA
      have hmin : Nat.min n (m * 48 - 4) = n := Nat.min_eq_left (by omega)
      refine ⟨_, fun ty => by
        have h := run_copy_cells (P := Try.prog) w3 25 25 ty 5 w.heap.size 4 (m * 48 - 4) (m * 48 - 4) ad n c (cellsB b) Try.underlying25 (by kernel_rfl) (by rw [cellsB_len, hmin, hrn])
          (fun j v hv => by
            rw [cellsB, List.getElem?_map] at hv
            obtain ⟨ch, hch, rfl⟩ := Option.map_eq_some_iff.1 hv
            exact hcell j ch hch)
          (fun j hj => ((H3.out.1.2.1.there (o := 4) (n := n) (by simp [cellsB_len, hpl]; omega)) j (by rw [cellsB_len, hrn] at hj; exact hj)).1) (fun j hj => ((H3.out.1.2.1.there (o := 4) (n := n) (by simp [cellsB_len, hpl]; omega)) j (by rw [cellsB_len, hrn] at hj; exact hj)).2) (cellsB_one _)
        rw [cellsB_len, hrn] at h
        exact h, ?_, Fr.setCells (F := fun k => k = w.heap.size) (.inl rfl) (Fr.refl _ _)⟩
      have := H3.out.1.2.1.over (o := 4) (m := b) (by rw [hpl, hrn]; omega)
      rw [hpe] at this
      exact this
  obtain ⟨w4, hc4, hb4, hf4⟩ := hcp
  have H4 := Lib.hid (And.intro hb4 (And.intro (H3.out.2.1.keep hf4 (by omega)) (H3.out.2.2.trans hf4 (fun i hi q => by omega))))
  clear hb4 hf4
  go_wp2_with fail
  go_ret
  have hme := HMM.out
  subst hme
  exact ⟨w.heap.size + 1, w.heap.size, _, rfl, H4.out.2.1, Nat.le_refl _, H4.out.1, by omega, by omega, H4.out.2.2⟩
end Go.Proofs.Ytbnegiiombnnaaa
