/- find. -/
import Derived.Test.YtijdbngjnhhheaaPma
namespace Go.Proofs.Ytijdbngjnhhheaa
open Go.RowKit
section
variable {w : World} {P : Nat} {x : PD}
set_option maxRecDepth 100000 in
theorem field_is (b : Bool) (A : Option Addr) (n c : Nat) (w : World) : (Instr.field 70 (.agg #[.bool b, .slice A n c]) 0).run Try.prog w = .ok (.bool b) w := by kernel_rfl
set_option maxRecDepth 100000 in
theorem field_rec (b : Bool) (A : Option Addr) (n c : Nat) (w : World) : (Instr.field 70 (.agg #[.bool b, .slice A n c]) 1).run Try.prog w = .ok (.slice A n c) w := by kernel_rfl
set_option maxRecDepth 100000 in
/-- What find tells where there is a record, and where there is none. -/
theorem find_some (h : PW w P x) (k : x.Ok) {i : Nat} {b : List UInt8} (hi : x.s[i]? = some (some b)) : Calls Try.prog 34 #[.pointer (some ⟨P, 0, none⟩), .int .i64 i] w fun e w' => e = .returned (.tuple #[partV P (512 - tot (x.s.take (i + 1))) (512 - tot (x.s.take i)), .int .i64 0]) ∧ Fr (fun _ => False) w w' := by
  have HM := may_any h k
  have HMy : Hid (∀ w', Fr (fun _ => False) w w' → Calls Try.prog 33 #[.pointer (some ⟨P, 0, none⟩)] w' fun e w'' => e = .returned (.int .i64 x.s.length) ∧ w' = w'') := Lib.hid fun w' f => manyOf_any (h.new f) k
  have hlt := (List.getElem?_eq_some_iff.1 hi).1
  have hm9 := k.many
  have HC : Hid (∀ w', Fr (fun _ => False) w w' → Calls Try.prog 67 #[.pointer (some ⟨P, 0, none⟩), .int .i64 i] w' fun e w'' => e = .returned (.agg #[.bool true, partV P (512 - tot (x.s.take (i + 1))) (512 - tot (x.s.take i))]) ∧ Fr (fun _ => False) w w'') := Lib.hid fun w' f => by
    have := cellOf_any (h.new f) k hlt
    have e : cellV P x.s i = .agg #[.bool true, partV P (512 - tot (x.s.take (i + 1))) (512 - tot (x.s.take i))] := by simp [cellV, hi]
    rw [e] at this
    exact this.mono fun e w'' he => ⟨he.1, f.trans he.2 (fun _ _ q => q)⟩
  obtain ⟨A, n, c, hpv⟩ : ∃ A n c, partV P (512 - tot (x.s.take (i + 1))) (512 - tot (x.s.take i)) = .slice A n c := ⟨_, _, _, rfl⟩
  rw [hpv] at HC ⊢
  obtain ⟨m, hm⟩ : ∃ m, m = x.s.length := ⟨_, rfl⟩
  rw [← hm] at HMy hlt hm9
  have hb1 : decide (m ≤ i) = false := by simp; omega
  have hb0 : decide ((i : Int) < 0) = false := by simp
  have g0 := field_is true A n c
  have g1 := field_rec true A n c
  clear h k hi hpv hm
  go_enter Try.func34, Try.ntmps34
  go_wp2_with fail
  refine HM.mono ?_
  rintro e w1 ⟨rfl, f1⟩
  have C1 := HMy.out _ f1
  go_wp2_with fail
  refine C1.mono ?_
  rintro e w' ⟨rfl, rfl⟩
  have C2 := HC.out _ f1
  clear C1
  go_wp2_with fail
  refine C2.mono ?_
  rintro e w2 ⟨rfl, f2⟩
  have C3 := HC.out _ f2
  clear C2 f1 HC HMy HM
  go_wp2_with fail
  refine C3.mono ?_
  rintro e w3 ⟨rfl, f3⟩
  clear C3 f2
  go_wp2_with fail
  go_ret2
  exact ⟨rfl, f3⟩
set_option maxRecDepth 100000 in
theorem find_out (h : PW w P x) (k : x.Ok) {z : Int} (hz : z < 0 ∨ (x.s.length : Int) ≤ z) : Calls Try.prog 34 #[.pointer (some ⟨P, 0, none⟩), .int .i64 z] w fun e w' => e = .returned (.tuple #[.slice none 0 0, .int .i64 6]) ∧ Fr (fun _ => False) w w' := by
  have HM := may_any h k
  have HMy : Hid (∀ w', Fr (fun _ => False) w w' → Calls Try.prog 33 #[.pointer (some ⟨P, 0, none⟩)] w' fun e w'' => e = .returned (.int .i64 x.s.length) ∧ w' = w'') := Lib.hid fun w' f => manyOf_any (h.new f) k
  have hm9 := k.many
  obtain ⟨m, hm⟩ : ∃ m, m = x.s.length := ⟨_, rfl⟩
  rw [← hm] at HMy hz hm9
  clear h k hm
  by_cases h0 : z < 0
  · have hb : decide (z < 0) = true := by simpa using h0
    clear hz
    go_enter Try.func34, Try.ntmps34
    go_wp2_with fail
    refine HM.mono ?_
    rintro e w1 ⟨rfl, f1⟩
    clear HM
    go_wp2_with fail
    go_ret2
    exact ⟨rfl, f1⟩
  · have hb : decide (z < 0) = false := by simpa using h0
    have hz1 : (m : Int) ≤ z := by omega
    have hb2 : decide ((m : Int) ≤ z) = true := by simpa using hz1
    clear hz
    go_enter Try.func34, Try.ntmps34
    go_wp2_with fail
    refine HM.mono ?_
    rintro e w1 ⟨rfl, f1⟩
    have C1 := HMy.out _ f1
    clear HM
    go_wp2_with fail
    refine C1.mono ?_
    rintro e w' ⟨rfl, rfl⟩
    clear C1
    go_wp2_with fail
    go_ret2
    exact ⟨rfl, f1⟩
set_option maxRecDepth 100000 in
theorem find_none (h : PW w P x) (k : x.Ok) {i : Nat} (hi : x.s[i]? = some none) : Calls Try.prog 34 #[.pointer (some ⟨P, 0, none⟩), .int .i64 i] w fun e w' => e = .returned (.tuple #[.slice none 0 0, .int .i64 6]) ∧ Fr (fun _ => False) w w' := by
  have HM := may_any h k
  have HMy : Hid (∀ w', Fr (fun _ => False) w w' → Calls Try.prog 33 #[.pointer (some ⟨P, 0, none⟩)] w' fun e w'' => e = .returned (.int .i64 x.s.length) ∧ w' = w'') := Lib.hid fun w' f => manyOf_any (h.new f) k
  have hlt := (List.getElem?_eq_some_iff.1 hi).1
  have hm9 := k.many
  have HC : Hid (∀ w', Fr (fun _ => False) w w' → Calls Try.prog 67 #[.pointer (some ⟨P, 0, none⟩), .int .i64 i] w' fun e w'' => e = .returned (.agg #[.bool false, .slice none 0 0]) ∧ Fr (fun _ => False) w w'') := Lib.hid fun w' f => by
    have := cellOf_any (h.new f) k hlt
    have e : cellV P x.s i = .agg #[.bool false, .slice none 0 0] := by simp [cellV, hi]
    rw [e] at this
    exact this.mono fun e w'' he => ⟨he.1, f.trans he.2 (fun _ _ q => q)⟩
  obtain ⟨m, hm⟩ : ∃ m, m = x.s.length := ⟨_, rfl⟩
  rw [← hm] at HMy hlt hm9
  have hb1 : decide (m ≤ i) = false := by simp; omega
  have hb0 : decide ((i : Int) < 0) = false := by simp
  have g0 := field_is false none 0 0
  clear h k hi hm
  go_enter Try.func34, Try.ntmps34
  go_wp2_with fail
  refine HM.mono ?_
  rintro e w1 ⟨rfl, f1⟩
  have C1 := HMy.out _ f1
  go_wp2_with fail
  refine C1.mono ?_
  rintro e w' ⟨rfl, rfl⟩
  have C2 := HC.out _ f1
  clear C1
  go_wp2_with fail
  refine C2.mono ?_
  rintro e w2 ⟨rfl, f2⟩
  clear C2 f1 HC HMy HM
  go_wp2_with fail
  go_ret2
  exact ⟨rfl, f2⟩
end
end Go.Proofs.Ytijdbngjnhhheaa
