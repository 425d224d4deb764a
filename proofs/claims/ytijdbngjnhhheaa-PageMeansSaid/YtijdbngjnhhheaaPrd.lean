/- What a page tells: kindOf, manyOf, beginOf, nextOf, slotsEnd, free, spanOf, empty. -/
import Derived.Test.YtijdbngjnhhheaaPnu
import Derived.Test.YtijdbngjnhhheaaPdg
namespace Go.Proofs.Ytijdbngjnhhheaa
open Go.RowKit

set_option maxRecDepth 100000 in
theorem ret_int {k : IntKind} {a b : Int} (h : a = b) : Ending.returned (.int k a) = .returned (.int k b) := by rw [h]
/-- A page stands in a block. -/
def PW (w : World) (P : Nat) (x : PD) : Prop := Blk w P 26 (cellsB x.bytes).toArray
set_option maxRecDepth 100000 in
theorem PW.new {w w' : World} {P : Nat} {x : PD} (h : PW w P x) (f : Fr (fun _ => False) w w') : PW w' P x := Blk.keep h f (fun q => q)
set_option maxRecDepth 100000 in
theorem blk_rd {w : World} {B o n : Nat} {t : TypeId} {l : List UInt8} (h : Blk w B t (cellsB l).toArray) (hn : o + n ≤ l.length) : Rd w (some ⟨B, o, none⟩) n (sub l o n) := by
  refine ⟨sub_len hn, fun _ => ⟨_, rfl, fun j c hj => ?_⟩⟩
  have e : (⟨B, o, none⟩ : Addr).add j = ⟨B, o + j, none⟩ := by unfold Addr.add; split <;> simp_all
  rw [e, h.cell]
  unfold sub at hj
  rw [List.getElem?_take] at hj
  split at hj
  · rw [List.getElem?_drop] at hj
    simp [cellsB, hj]
  · cases hj
set_option maxRecDepth 100000 in
theorem number_blk {w : World} {B o n c : Nat} {t : TypeId} {l : List UInt8} (h : Blk w B t (cellsB l).toArray) (hn : o + n ≤ l.length) (hnc : n ≤ c) {s : Nat} (hs : s ≤ 4) (hsn : s ≤ n) :
    Calls Try.prog 66 #[.slice (some ⟨B, o, none⟩) n c, .int .i64 s] w fun e w' => e = .returned (.int .i64 (numOf (sub l o s) : Nat)) ∧ w = w' := by
  have := number_any (blk_rd h hn) hnc hs hsn
  have e : (sub l o n).take s = sub l o s := by
    unfold sub
    rw [List.take_take]
    congr 1
    omega
  rwa [e] at this
section
variable {w : World} {P : Nat} {x : PD}
set_option maxRecDepth 100000 in
theorem kindOf_any (h : PW w P x) (k : x.Ok) : Calls Try.prog 30 #[.pointer (some ⟨P, 0, none⟩)] w fun e w' => e = .returned (.int .i64 x.kind) ∧ w = w' := by
  have c0 : w.cell? ⟨P, 0, none⟩ = some (.int .u8 (x.kind : Int)) := by
    rw [Blk.cell h]
    obtain ⟨t, ht⟩ := bytes_kind x
    have := k.k
    rw [ht]
    simp [cellsB]
    omega
  have hk := k.k
  clear h
  go_enter Try.func30, Try.ntmps30
  go_wp2_with fail
  go_ret
  exact ⟨rfl, rfl⟩
set_option maxRecDepth 100000 in
theorem manyOf_any (h : PW w P x) (k : x.Ok) : Calls Try.prog 33 #[.pointer (some ⟨P, 0, none⟩)] w fun e w' => e = .returned (.int .i64 x.s.length) ∧ w = w' := by
  have HN := number_blk (o := 2) (n := 510) (c := 510) (s := 2) h (by rw [k.len]; omega) (by omega) (by omega) (by omega)
  rw [bytes_many k] at HN
  have hl : Try.prog.arrayLen 26 = 512 := by kernel_rfl
  clear h k
  go_enter Try.func33, Try.ntmps33
  go_wp2_with fail
  refine HN.mono ?_
  rintro e w' ⟨rfl, rfl⟩
  go_wp2_with fail
  go_ret
  exact ⟨rfl, rfl⟩
set_option maxRecDepth 100000 in
theorem beginOf_any (h : PW w P x) (k : x.Ok) : Calls Try.prog 63 #[.pointer (some ⟨P, 0, none⟩)] w fun e w' => e = .returned (.int .i64 (512 - tot x.s : Nat)) ∧ w = w' := by
  have HN := number_blk (o := 4) (n := 508) (c := 508) (s := 2) h (by rw [k.len]; omega) (by omega) (by omega) (by omega)
  rw [bytes_begin k] at HN
  have hl : Try.prog.arrayLen 26 = 512 := by kernel_rfl
  clear h k
  generalize 512 - tot x.s = q at *
  go_enter Try.func63, Try.ntmps63
  go_wp2_with fail
  refine HN.mono ?_
  rintro e w' ⟨rfl, rfl⟩
  go_wp2_with fail
  go_ret
  exact ⟨rfl, rfl⟩
set_option maxRecDepth 100000 in
theorem nextOf_any (h : PW w P x) (k : x.Ok) : Calls Try.prog 41 #[.pointer (some ⟨P, 0, none⟩)] w fun e w' => e = .returned (.int .i64 x.next) ∧ w = w' := by
  have HN := number_blk (o := 8) (n := 504) (c := 504) (s := 4) h (by rw [k.len]; omega) (by omega) (by omega) (by omega)
  rw [bytes_next k] at HN
  have hl : Try.prog.arrayLen 26 = 512 := by kernel_rfl
  clear h k
  go_enter Try.func41, Try.ntmps41
  go_wp2_with fail
  refine HN.mono ?_
  rintro e w' ⟨rfl, rfl⟩
  go_wp2_with fail
  go_ret
  exact ⟨rfl, rfl⟩
set_option maxRecDepth 100000 in
theorem slotsEnd_any (h : PW w P x) (k : x.Ok) : Calls Try.prog 60 #[.pointer (some ⟨P, 0, none⟩)] w fun e w' => e = .returned (.int .i64 (12 + 4 * x.s.length : Nat)) ∧ w = w' := by
  have HN := manyOf_any h k
  have hm := k.many
  clear h k
  generalize x.s.length = q at *
  go_enter Try.func60, Try.ntmps60
  go_wp2_with fail
  refine HN.mono ?_
  rintro e w' ⟨rfl, rfl⟩
  go_wp2_with fail
  go_ret
  exact ⟨by simp, rfl⟩
set_option maxRecDepth 100000 in
theorem free_any (h : PW w P x) (k : x.Ok) : Calls Try.prog 68 #[.pointer (some ⟨P, 0, none⟩)] w fun e w' => e = .returned (.int .i64 (512 - (12 + 4 * x.s.length + tot x.s) : Nat)) ∧ w = w' := by
  have HB := beginOf_any h k
  have HN := slotsEnd_any h k
  have hm := k.sz
  obtain ⟨p, hp⟩ : ∃ p, p = 12 + 4 * x.s.length := ⟨_, rfl⟩
  obtain ⟨r, hr⟩ : ∃ r, r = 512 - (12 + 4 * x.s.length + tot x.s) := ⟨_, rfl⟩
  have hq : 512 - tot x.s = p + r := by omega
  rw [← hr]
  rw [hq] at HB
  rw [← hp] at HN
  have hp9 : p ≤ 1000 := by omega
  have hr9 : r ≤ 1000 := by omega
  clear h k hp hr hq hm
  go_enter Try.func68, Try.ntmps68
  go_wp2_with fail
  refine HB.mono ?_
  rintro e w' ⟨rfl, rfl⟩
  go_wp2_with fail
  refine HN.mono ?_
  rintro e w' ⟨rfl, rfl⟩
  go_wp2_with fail
  go_ret
  exact ⟨ret_int (by omega), rfl⟩
end
end Go.Proofs.Ytijdbngjnhhheaa
