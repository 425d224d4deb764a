/- slices.Clone at bytes; the writer's Text, Len, End. -/
import Derived.Test.YtmjkcjllpnpgpaaMeth
import Derived.WalkSpells
namespace Go.Proofs.Ytmjkcjllpnpgpaa
open Go.RowKit

/-- What makes a row of its own that holds l, and turns nothing. -/
def Makes (w : World) (l : List UInt8) (v : Value) (w' : World) : Prop := w'.ownsRow w.heap.size 5 1 v l.length (cellsB l) ∧ Fr (fun _ => False) w w'

theorem eqNil (w : World) (a : Option Addr) (n c n' c' : Nat) : (binOp .eql 26 (.slice a n c) (.slice none n' c')).run Try.prog w = .ok (.bool a.isNone) w := Lib.run_eql_slice_nil w _ _ a n c n' c' Try.underlying26

theorem clone_nil (w : World) (n : Nat) : Calls Try.prog 46 #[.slice none n 0] w fun e w' => e = .returned (.slice none 0 0) ∧ w = w' := by
  have q := eqNil
  go_enter Try.func46, Try.ntmps46
  go_wp2
  go_ret
  exact ⟨rfl, rfl⟩

set_option maxHeartbeats 400000 in
theorem clone_some {w : World} {a : Addr} {n c : Nat} {l : List UInt8} (hr : Rd w (some a) n l) (hn : n ≤ 140737488355328) :
    Calls Try.prog 46 #[.slice (some a) n c] w fun e w' => ∃ v, e = .returned v ∧ Makes w l v w' := by
  obtain ⟨i0, hi, hz0, hz1, hz2⟩ := info_parts infoU8
  have q := eqNil
  go_enter Try.func46, Try.ntmps46
  have ho : (w.alloc (.cells #[] 5)).ownsRow w.heap.size 5 1 (.slice (some ⟨w.heap.size, 0, none⟩) 0 0) ([] : List UInt8).length (cellsB []) :=
    World.ownsRow_made w #[] 0 (Nat.le_refl _) (Nat.zero_le _) rfl
  have hr' := hr.alloc (.cells #[] 5)
  go_wp2_with (at_builtin; refine wpList_append_bytes _ rfl _ _ 26 rfl w.heap.size 5 i0 (.int .u8 0) Try.underlying26 hi hz0 hz1 hz2 rfl (.slice (some ⟨w.heap.size, 0, none⟩) 0 0) [] l rfl ho (some a) n c rfl hr' (by simpa using hn) (by simp) ?_; intro v' w' hown hgrow hat)
  go_ret
  refine ⟨v', rfl, by simpa using hown, ((Fr.refl _ _).alloc _).grown hgrow (fun k hk => .inr ?_)⟩
  simp [Value.ownBlock] at hk
  omega

theorem clone_any {w : World} {A : Option Addr} {n c : Nat} {l : List UInt8} (hr : Rd w A n l) (hA : A = none → c = 0) (hn : n ≤ 140737488355328) :
    Calls Try.prog 46 #[.slice A n c] w fun e w' => ∃ v, e = .returned v ∧ Makes w l v w' := by
  cases A with
  | none =>
    obtain rfl := hA rfl
    have h0 : n = 0 := by
      rcases Nat.eq_zero_or_pos n with h | h
      · exact h
      · obtain ⟨_, e, _⟩ := hr.2 h
        cases e
    subst h0
    have hl : l = [] := List.eq_nil_of_length_eq_zero hr.1
    subst hl
    exact (clone_nil w 0).mono fun _ _ ⟨he, hw⟩ => ⟨_, he, World.ownsRow_nil _ _ _ _, hw ▸ Fr.refl _ _⟩
  | some a => exact clone_some hr hn

theorem own_rd {w : World} {base e : Nat} {v : Value} {l : List UInt8} (h : w.ownsRow base e 1 v l.length (cellsB l)) :
    ∃ A c, v = .slice A l.length c ∧ (A = none → c = 0) ∧ l.length ≤ c ∧ c ≤ maxLen ∧ Rd w A l.length l := by
  rcases h.2 with ⟨rfl, h0⟩ | ⟨g, cap, cur, rfl, _, _, hn, hc, _⟩
  · have hl : l = [] := List.eq_nil_of_length_eq_zero h0
    subst hl
    exact ⟨none, 0, rfl, fun _ => rfl, Nat.le_refl _, Nat.zero_le _, Rd.nil _ _⟩
  · exact ⟨_, cap, rfl, (fun e => by cases e), hn, hc, Rd.of_own h⟩

theorem len_any {w : World} {B g : Nat} {v : Value} {o : Option (List UInt8)} (h : WrS w B g v o) :
    Calls Try.prog 14 #[.pointer (some ⟨g, 0, none⟩)] w fun e w' => e = .returned (.int .i64 ((o.getD []).length : Nat)) ∧ w = w' := by
  have h0 := h.blk.cell 0
  obtain ⟨A, c, rfl, _, _, _, _⟩ := own_rd h.own
  simp at h0
  go_enter Try.func14, Try.ntmps14
  go_wp2
  go_ret
  exact ⟨rfl, rfl⟩

theorem len_nil (w : World) : Calls Try.prog 14 #[.pointer none] w fun e w' => e = .returned (.int .i64 0) ∧ w = w' := by
  go_enter Try.func14, Try.ntmps14
  go_wp2
  go_ret
  exact ⟨rfl, rfl⟩

theorem end_nil (w : World) : Calls Try.prog 15 #[.pointer none] w fun e w' => e = .returned (.tuple #[.slice none 0 0, .int .i64 1]) ∧ w = w' := by
  go_enter Try.func15, Try.ntmps15
  go_wp2
  go_ret2
  exact ⟨rfl, rfl⟩

theorem end_failed {w : World} {B g : Nat} {v : Value} (h : WrS w B g v none) :
    Calls Try.prog 15 #[.pointer (some ⟨g, 0, none⟩)] w fun e w' => e = .returned (.tuple #[.slice none 0 0, .int .i64 2]) ∧ w = w' := by
  have h1 := h.blk.cell 1
  simp at h1
  go_enter Try.func15, Try.ntmps15
  go_wp2
  go_ret2
  exact ⟨rfl, rfl⟩

theorem end_any {w : World} {B g : Nat} {v : Value} {l : List UInt8} (h : WrS w B g v (some l)) (hl : l.length ≤ 140737488355328) :
    Calls Try.prog 15 #[.pointer (some ⟨g, 0, none⟩)] w fun e w' => ∃ x, e = .returned (.tuple #[x, .int .i64 0]) ∧ Makes w l x w' := by
  have h0 := h.blk.cell 0
  have h1 := h.blk.cell 1
  have ho := h.own
  have e : (some l).getD [] = l := rfl
  rw [e] at ho
  obtain ⟨A, c, rfl, hA, _, _, hr⟩ := own_rd ho
  simp at h0 h1
  have H := Lib.hid hr
  have HA := Lib.hid hA
  clear hr hA e
  go_enter Try.func15, Try.ntmps15
  go_wp2_with fail
  refine (clone_any H.out HA.out hl).mono ?_
  rintro e w' ⟨x, rfl, hm⟩
  go_wp2_with fail
  go_ret2
  exact ⟨x, rfl, hm⟩

theorem text_puts {w : World} {B g : Nat} {v : Value} {o : Option (List UInt8)} (h : WrS w B g v o) (s : ByteArray) (hn : s.size ≤ 16777216) (hb : roomS o (s.size + 8)) :
    Calls Try.prog 27 #[.pointer (some ⟨g, 0, none⟩), .string s] w (Puts w B g v (putBlob o s.data.toList)) := by
  obtain ⟨c, w1, hcv, hr, hf, _⟩ := conv_bytes (P := Try.prog) w 9 26 5 s Try.underlying9 Try.underlying26 Try.underlying5
  have h1 := h.keep hf (fun _ _ => id)
  have hw : ∀ k, WrF g v k → k < w.heap.size := by
    rintro k (rfl | hk)
    · exact h.blk.lt
    · exact (h.own.lt k hk).2
  have hN : Hid (∀ ad : Addr, some (⟨w.heap.size, 0, none⟩ : Addr) = some ad → ¬ WrF g v ad.block) := Lib.hid (by
    rintro ad e hk
    injection e with e
    subst e
    exact Nat.lt_irrefl _ (hw _ hk))
  clear hw
  go_enter Try.func27, Try.ntmps27
  go_wp2_with fail
  refine (blob_puts h1 hr hn (fun _ => hN.out) hb).mono ?_
  rintro e w' ⟨rfl, v', h2, h3, h4⟩
  go_wp2_with fail
  go_ret
  have := hf.size
  exact ⟨rfl, v', h2, (hf.mono (fun _ _ q => q.elim)).trans h3 (fun _ _ q => q), fun k hk => (h4 k hk).imp id (fun q => by omega)⟩

theorem WrS.new (w : World) : WrS (w.alloc (.cells #[.slice none 0 0, .bool false] 28)) w.heap.size w.heap.size (.slice none 0 0) (some []) :=
  ⟨Blk.new _ _ _, World.ownsRow_nil _ _ _ _, Nat.le_refl _, fun h => by cases h⟩

theorem WrS.lt {w : World} {B g : Nat} {v : Value} {o : Option (List UInt8)} (h : WrS w B g v o) {k : Nat} (hk : WrF g v k) : k < w.heap.size := by
  rcases hk with rfl | hk
  · exact h.blk.lt
  · exact (h.own.lt k hk).2
theorem WrS.alloc {w : World} {B g : Nat} {v : Value} {o : Option (List UInt8)} (h : WrS w B g v o) (x : Obj) : WrS (w.alloc x) B g v o := h.keep (F := fun _ => False) ((Fr.refl _ _).alloc x) (fun _ _ => id)
/-- One byte in a new block. -/
theorem Rd.one (w : World) (t : TypeId) (c : UInt8) : Rd (w.alloc (.cells #[.int .u8 (c.toNat : Int)] t)) (some ⟨w.heap.size, 0, none⟩) 1 [c] := by
  refine ⟨rfl, fun _ => ⟨_, rfl, fun j d hj => ?_⟩⟩
  cases j with
  | zero =>
    have e : d = c := by simpa using hj.symm
    subst e
    exact (Blk.new w t _).cell 0
  | succ j => simp at hj

/-- All that a writer's methods turned, from its making on, is new. -/
theorem new_then {F : Nat → Prop} {w w' : World} {o : Obj} (h : Fr F (w.alloc o) w') (hF : ∀ k, F k → w.heap.size ≤ k) : Fr (fun _ => False) w w' :=
  ((Fr.refl _ w).alloc o).trans h (fun i hi hk => absurd (hF i hk) (by omega))
end Go.Proofs.Ytmjkcjllpnpgpaa
