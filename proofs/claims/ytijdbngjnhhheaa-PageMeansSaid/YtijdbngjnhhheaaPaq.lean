/- Lay, Put, Take, Get, Link. -/
import Derived.Test.YtijdbngjnhhheaaPap
namespace Go.Proofs.Ytijdbngjnhhheaa
open Go.RowKit

def PD.lay (x : PD) (b : List UInt8) : PD := ⟨x.kind, x.next, putS x.s (firstE x.s) (some b)⟩
def PD.put (x : PD) (i : Nat) (b : List UInt8) : PD := ⟨x.kind, x.next, putS x.s i (some b)⟩
def PD.drop (x : PD) (i : Nat) : PD := ⟨x.kind, x.next, trim (putS x.s i none)⟩
def PD.link (x : PD) (n : Nat) : PD := ⟨x.kind, n, x.s⟩
section
variable {w : World} {x : PD} {A : Option Addr} {n c : Nat} {b : List UInt8}
set_option maxRecDepth 100000 in
theorem lay_size (k : x.Ok) (b : List UInt8) : (x.lay b).size = if firstE x.s = x.s.length then x.size + 4 + b.length else x.size + b.length := by
  have hle := firstE_le x.s
  unfold PD.lay PD.size
  simp only
  rw [putS_len _ _ hle]
  rcases firstE_is x.s with h | h
  · have hlt := (List.getElem?_eq_some_iff.1 h).1
    have h1 := tot_set (some b) h
    simp only [rl, Option.getD_none, Option.getD_some, List.length_nil] at h1
    unfold putS
    rw [if_pos hlt, if_neg (by omega)]
    omega
  · unfold putS
    rw [if_neg (by omega), if_pos h, tot_app]
    simp [tot, rl]
    omega
set_option maxRecDepth 100000 in
theorem lay_fits (k : x.Ok) (b : List UInt8) : (b.length : Int) ≤ x.room ↔ b.length ≤ 400 ∧ (x.lay b).size ≤ 512 := by
  rw [lay_size k]
  have hs := k.sz
  unfold PD.room PD.size
  split <;> omega
set_option maxRecDepth 100000 in
theorem lay_ok (k : x.Ok) {b : List UInt8} (h1 : b.length ≤ 400) (h2 : (x.lay b).size ≤ 512) : (x.lay b).Ok :=
  ⟨k.k, k.n, h2, fun c hc => by
    rcases putS_mem hc with h | h
    · exact k.rs c h
    · injection h with h
      rw [h]; exact h1, fun i hi => putS_last (firstE_le _) k.ls i hi⟩
set_option maxRecDepth 100000 in
theorem put_size {i : Nat} {o : List UInt8} (hi : x.s[i]? = some (some o)) (b : List UInt8) : (x.put i b).size + o.length = x.size + b.length := by
  have hlt := (List.getElem?_eq_some_iff.1 hi).1
  have h1 := tot_set (some b) hi
  simp only [rl, Option.getD_some] at h1
  unfold PD.put PD.size
  simp only
  rw [putS_len _ _ (by omega)]
  unfold putS
  rw [if_pos hlt]
  omega
set_option maxRecDepth 100000 in
theorem put_ok (k : x.Ok) {i : Nat} {o b : List UInt8} (hi : x.s[i]? = some (some o)) (h1 : b.length ≤ 400) (h2 : (x.put i b).size ≤ 512) : (x.put i b).Ok := by
  have hlt := (List.getElem?_eq_some_iff.1 hi).1
  exact ⟨k.k, k.n, h2, fun c hc => by
    rcases putS_mem hc with h | h
    · exact k.rs c h
    · injection h with h
      rw [h]; exact h1, fun j hj => putS_last (by omega) k.ls j hj⟩
set_option maxRecDepth 100000 in
theorem drop_size (k : x.Ok) {i : Nat} {o : List UInt8} (hi : x.s[i]? = some (some o)) : (x.drop i).size ≤ x.size := by
  have hlt := (List.getElem?_eq_some_iff.1 hi).1
  have h1 := tot_set none hi
  simp only [rl, Option.getD_some, Option.getD_none, List.length_nil] at h1
  have h2 := trim_le (putS x.s i none)
  have h3 := trim_tot (putS x.s i none)
  rw [putS_len _ _ (by omega)] at h2
  have h4 : tot (putS x.s i none) = tot (x.s.set i none) := by unfold putS; rw [if_pos hlt]
  unfold PD.drop PD.size
  simp only
  omega
set_option maxRecDepth 100000 in
theorem drop_ok (k : x.Ok) {i : Nat} {o : List UInt8} (hi : x.s[i]? = some (some o)) : (x.drop i).Ok :=
  ok_trim k.k k.n (by have := drop_size k hi; have := k.sz; unfold PD.drop PD.size at *; simp only at *; omega) (fun c hc => by
    rcases putS_mem hc with h | h
    · exact k.rs c h
    · cases h)
set_option maxRecDepth 100000 in
theorem link_ok (k : x.Ok) {n : Nat} (hn : n ≤ 2147483647) : (x.link n).Ok := ⟨k.k, hn, k.sz, k.rs, k.ls⟩
set_option maxRecDepth 100000 in
theorem link_bytes (n : Nat) : patch x.bytes 8 (be n 4) = (x.link n).bytes := by
  unfold PD.bytes PD.link
  rw [part_head (by simp [hd_len, be_len])]
  congr 1
set_option maxRecDepth 100000 in
theorem lay_long (k : x.Ok) (h : 400 < n) : Calls Try.prog 16 #[av x.bytes, .slice A n c] w fun e w' => e = .returned (.tuple #[av (nought 512), .int .i64 0, .int .i64 3]) ∧ Fr (fun _ => False) w w' := by
  obtain ⟨X, hX, hP0, hR0, g0⟩ := two_pages w x.bytes
  have hP : PW X w.heap.size x := hP0
  have HX := Lib.hid hX
  have HR := Lib.hid hR0
  have HG0 := Lib.hid g0
  have C1 := may_any hP k
  have h' : 400 < (n : Int) := by omega
  have hbs := zeroPage
  have hll : (nought 512).length = 512 := nought_len _
  clear hX hP0 hR0 g0 hP k h
  go_enter Try.func16, Try.ntmps16
  go_wp2_with (first | (refine wpList_put rfl 26 _ rfl (cellsB x.bytes).toArray rfl ?_) | (refine wpList_zero rfl 26 rfl zeroPage ?_))
  rw [← HX.out]
  refine C1.mono ?_
  rintro e w1 ⟨rfl, f1⟩
  have HG1 := Lib.hid (HG0.out.trans f1 (fun _ _ q => q))
  have HR1 := Lib.hid (HR.out.keep f1 (fun q => q))
  clear C1 f1
  have hbR : Blk _ (w.heap.size + 1) 26 (cellsB (nought 512)).toArray := HR1.out
  have hbo := hbR.over (o := 0) (m := (nought 512)) (by have h1 := nought_len 512; have h2 := hll; omega)
  rw [patch_all (by have h1 := nought_len 512; have h2 := hll; omega)] at hbo
  have HE := Lib.hid (And.intro hbo (Fr.setCells (F := fun _ => False) (b := w.heap.size + 1) (vs := cellsB (nought 512)) (o := 0) (.inr (by omega)) HG1.out))
  have HBR := Lib.hid hbR
  clear hbR hbo
  go_wp2_with (refine wpList_store_mid rfl 26 _ _ rfl (w.heap.size + 1) 0 (cellsB (nought 512)).toArray rfl rfl (HBR.out.there (by simp [cellsB_len, nought_len, hll])) (by rw [infoPage]; simp [cellsB_len, hll]) (all_oneCell_toArray (cellsB_one _)) ?_)
  refine bodyPost_ret (results_page3 rfl _ _ (w.heap.size + 1) (nought 512) (.int .i64 0) (.int .i64 3) (by simp) (by simp) (by simp) hll HE.out.1) rfl ⟨rfl, HE.out.2⟩
set_option maxRecDepth 100000 in
theorem lay_full (k : x.Ok) (h : n ≤ 400) (hf : x.room < (n : Int)) : Calls Try.prog 16 #[av x.bytes, .slice A n c] w fun e w' => e = .returned (.tuple #[av (nought 512), .int .i64 0, .int .i64 8]) ∧ Fr (fun _ => False) w w' := by
  obtain ⟨X, hX, hP0, hR0, g0⟩ := two_pages w x.bytes
  have hP : PW X w.heap.size x := hP0
  have HX := Lib.hid hX
  have HR := Lib.hid hR0
  have HG0 := Lib.hid g0
  have C1 := may_any hP k
  have HC2 : Hid (∀ w', Fr (fun _ => False) X w' → _) := Lib.hid fun w' f => room_any (hP.new f) k
  have h' : ¬ 400 < (n : Int) := by omega
  generalize x.room = rm at *
  have hbs := zeroPage
  have hll : (nought 512).length = 512 := nought_len _
  clear hX hP0 hR0 g0 hP k h
  go_enter Try.func16, Try.ntmps16
  go_wp2_with (first | (refine wpList_put rfl 26 _ rfl (cellsB x.bytes).toArray rfl ?_) | (refine wpList_zero rfl 26 rfl zeroPage ?_))
  rw [← HX.out]
  refine C1.mono ?_
  rintro e w1 ⟨rfl, f1⟩
  have HG1 := Lib.hid (HG0.out.trans f1 (fun _ _ q => q))
  have HR1 := Lib.hid (HR.out.keep f1 (fun q => q))
  have C2 := HC2.out w1 f1
  clear HC2
  clear C1 f1
  go_wp2_with fail
  refine C2.mono ?_
  rintro e w2 ⟨rfl, f2⟩
  have HG2 := Lib.hid (HG1.out.trans f2 (fun _ _ q => q))
  have HR2 := Lib.hid (HR1.out.keep f2 (fun q => q))
  clear C2 f2
  have hbR : Blk _ (w.heap.size + 1) 26 (cellsB (nought 512)).toArray := HR2.out
  have hbo := hbR.over (o := 0) (m := (nought 512)) (by have h1 := nought_len 512; have h2 := hll; omega)
  rw [patch_all (by have h1 := nought_len 512; have h2 := hll; omega)] at hbo
  have HE := Lib.hid (And.intro hbo (Fr.setCells (F := fun _ => False) (b := w.heap.size + 1) (vs := cellsB (nought 512)) (o := 0) (.inr (by omega)) HG2.out))
  have HBR := Lib.hid hbR
  clear hbR hbo
  go_wp2_with (refine wpList_store_mid rfl 26 _ _ rfl (w.heap.size + 1) 0 (cellsB (nought 512)).toArray rfl rfl (HBR.out.there (by simp [cellsB_len, nought_len, hll])) (by rw [infoPage]; simp [cellsB_len, hll]) (all_oneCell_toArray (cellsB_one _)) ?_)
  refine bodyPost_ret (results_page3 rfl _ _ (w.heap.size + 1) (nought 512) (.int .i64 0) (.int .i64 8) (by simp) (by simp) (by simp) hll HE.out.1) rfl ⟨rfl, HE.out.2⟩
set_option maxRecDepth 100000 in
theorem lay_any (k : x.Ok) (hr : Rd w A n b) (hnc : n ≤ 400) (hf : (x.lay b).size ≤ 512) : Calls Try.prog 16 #[av x.bytes, .slice A n c] w fun e w' => e = .returned (.tuple #[av (x.lay b).bytes, .int .i64 (firstE x.s), .int .i64 0]) ∧ Fr (fun _ => False) w w' := by
  obtain ⟨X, hX, hP0, hR0, g0⟩ := two_pages w x.bytes
  have hP : PW X w.heap.size x := hP0
  have HX := Lib.hid hX
  have HR := Lib.hid hR0
  have HG0 := Lib.hid g0
  have hnn := hr.len
  have C1 := may_any hP k
  have hroom : (n : Int) ≤ x.room := by rw [← hnn]; exact (lay_fits k b).2 ⟨by omega, hf⟩
  have HC2 : Hid (∀ w', Fr (fun _ => False) X w' → _) := Lib.hid fun w' f => room_any (hP.new f) k
  have HC3 : Hid (∀ w', Fr (fun _ => False) X w' → _) := Lib.hid fun w' f => firstEmpty_any (hP.new f) k
  have HC4 : Hid (∀ w', Fr (fun _ => False) X w' → Calls Try.prog 38 #[.pointer (some ⟨w.heap.size, 0, none⟩), .int .i64 (firstE x.s), .agg #[.bool true, .slice A n c]] w' fun e w'' => e = .returned (av (x.lay b).bytes) ∧ Fr (fun _ => False) w' w'') := Lib.hid fun w' f => by
    have ht : trim (putS x.s (firstE x.s) (some b)) = putS x.s (firstE x.s) (some b) := putS_trim (firstE_le _) k.ls
    have := changed_any (hP.new f) k (firstE_le x.s) (o := some b) (b1 := true) (A1 := A) (n1 := n) (k1 := c) ⟨rfl, A, c, by rw [hnn], by rw [hnn]; exact (hr.keep g0 (fun _ _ q => q)).keep f (fun _ _ q => q)⟩ (by rw [ht]; exact hf)
    rw [ht] at this
    exact this
  have h' : ¬ 400 < (n : Int) := by omega
  have hll : (x.lay b).bytes.length = 512 := (lay_ok k (by omega) hf).len
  have hfe : firstE x.s ≤ 125 := by have := firstE_le x.s; have := k.many; omega
  have hroom' : ¬ x.room < (n : Int) := by omega
  generalize x.room = rm at *
  generalize (x.lay b).bytes = L at *
  generalize firstE x.s = fe at *
  clear hX hP0 hR0 g0 hP k hf hr hnn
  go_enter Try.func16, Try.ntmps16
  go_wp2_with (first | (refine wpList_put rfl 26 _ rfl (cellsB x.bytes).toArray rfl ?_) | (refine wpList_zero rfl 26 rfl zeroPage ?_))
  rw [← HX.out]
  refine C1.mono ?_
  rintro e w1 ⟨rfl, f1⟩
  have HG1 := Lib.hid (HG0.out.trans f1 (fun _ _ q => q))
  have HR1 := Lib.hid (HR.out.keep f1 (fun q => q))
  have C2 := HC2.out w1 f1
  have HF1 := Lib.hid f1
  clear HC2
  clear C1 f1
  go_wp2_with fail
  refine C2.mono ?_
  rintro e w2 ⟨rfl, f2⟩
  have HG2 := Lib.hid (HG1.out.trans f2 (fun _ _ q => q))
  have HR2 := Lib.hid (HR1.out.keep f2 (fun q => q))
  have C3 := HC3.out w2 (HF1.out.trans f2 (fun _ _ q => q))
  have HF2 := Lib.hid (HF1.out.trans f2 (fun _ _ q => q))
  clear HC3
  clear C2 f2
  go_wp2_with fail
  refine C3.mono ?_
  rintro e w3 ⟨rfl, f3⟩
  have HG3 := Lib.hid (HG2.out.trans f3 (fun _ _ q => q))
  have HR3 := Lib.hid (HR2.out.keep f3 (fun q => q))
  have C4 := HC4.out w3 (HF2.out.trans f3 (fun _ _ q => q))
  clear HC4
  clear C3 f3
  go_wp2_with fail
  refine C4.mono ?_
  rintro e w4 ⟨rfl, f4⟩
  have HG4 := Lib.hid (HG3.out.trans f4 (fun _ _ q => q))
  have HR4 := Lib.hid (HR3.out.keep f4 (fun q => q))
  clear C4 f4
  have hbR : Blk _ (w.heap.size + 1) 26 (cellsB (nought 512)).toArray := HR4.out
  have hbo := hbR.over (o := 0) (m := L) (by have h1 := nought_len 512; have h2 := hll; omega)
  rw [patch_all (by have h1 := nought_len 512; have h2 := hll; omega)] at hbo
  have HE := Lib.hid (And.intro hbo (Fr.setCells (F := fun _ => False) (b := w.heap.size + 1) (vs := cellsB L) (o := 0) (.inr (by omega)) HG4.out))
  have HBR := Lib.hid hbR
  clear hbR hbo
  go_wp2_with (refine wpList_store_mid rfl 26 _ _ rfl (w.heap.size + 1) 0 (cellsB L).toArray rfl rfl (HBR.out.there (by simp [cellsB_len, nought_len, hll])) (by rw [infoPage]; simp [cellsB_len, hll]) (all_oneCell_toArray (cellsB_one _)) ?_)
  refine bodyPost_ret (results_page3 rfl _ _ (w.heap.size + 1) L (.int .i64 fe) (.int .i64 0) (by simp) (by simp) (by simp) hll HE.out.1) rfl ⟨rfl, HE.out.2⟩
set_option maxRecDepth 100000 in
theorem take_none {z : Int} (hC : ∀ w P, PW w P x → Calls Try.prog 34 #[.pointer (some ⟨P, 0, none⟩), .int .i64 z] w fun e w' => e = .returned (.tuple #[.slice none 0 0, .int .i64 6]) ∧ Fr (fun _ => False) w w') : Calls Try.prog 17 #[av x.bytes, .int .i64 z] w fun e w' => e = .returned (.tuple #[av (nought 512), .int .i64 6]) ∧ Fr (fun _ => False) w w' := by
  obtain ⟨X, hX, hP0, hR0, g0⟩ := two_pages w x.bytes
  have hP : PW X w.heap.size x := hP0
  have HX := Lib.hid hX
  have HR := Lib.hid hR0
  have HG0 := Lib.hid g0
  have C1 := hC _ _ hP
  have hbs := zeroPage
  have hll : (nought 512).length = 512 := nought_len _
  clear hX hP0 hR0 g0 hP hC
  go_enter Try.func17, Try.ntmps17
  go_wp2_with (first | (refine wpList_put rfl 26 _ rfl (cellsB x.bytes).toArray rfl ?_) | (refine wpList_zero rfl 26 rfl zeroPage ?_))
  rw [← HX.out]
  refine C1.mono ?_
  rintro e w1 ⟨rfl, f1⟩
  have HG1 := Lib.hid (HG0.out.trans f1 (fun _ _ q => q))
  have HR1 := Lib.hid (HR.out.keep f1 (fun q => q))
  clear C1 f1
  have hbR : Blk _ (w.heap.size + 1) 26 (cellsB (nought 512)).toArray := HR1.out
  have hbo := hbR.over (o := 0) (m := (nought 512)) (by have h1 := nought_len 512; have h2 := hll; omega)
  rw [patch_all (by have h1 := nought_len 512; have h2 := hll; omega)] at hbo
  have HE := Lib.hid (And.intro hbo (Fr.setCells (F := fun _ => False) (b := w.heap.size + 1) (vs := cellsB (nought 512)) (o := 0) (.inr (by omega)) HG1.out))
  have HBR := Lib.hid hbR
  clear hbR hbo
  go_wp2_with (refine wpList_store_mid rfl 26 _ _ rfl (w.heap.size + 1) 0 (cellsB (nought 512)).toArray rfl rfl (HBR.out.there (by simp [cellsB_len, nought_len, hll])) (by rw [infoPage]; simp [cellsB_len, hll]) (all_oneCell_toArray (cellsB_one _)) ?_)
  refine bodyPost_ret (results_page2 rfl _ _ (w.heap.size + 1) (nought 512) (.int .i64 6) (by simp) (by simp) hll HE.out.1) rfl ⟨rfl, HE.out.2⟩
set_option maxRecDepth 100000 in
theorem take_any (k : x.Ok) {i : Nat} {o : List UInt8} (hi : x.s[i]? = some (some o)) : Calls Try.prog 17 #[av x.bytes, .int .i64 i] w fun e w' => e = .returned (.tuple #[av (x.drop i).bytes, .int .i64 0]) ∧ Fr (fun _ => False) w w' := by
  obtain ⟨X, hX, hP0, hR0, g0⟩ := two_pages w x.bytes
  have hP : PW X w.heap.size x := hP0
  have HX := Lib.hid hX
  have HR := Lib.hid hR0
  have HG0 := Lib.hid g0
  have hlt := (List.getElem?_eq_some_iff.1 hi).1
  have C1 := find_some hP k hi
  have HC2 : Hid (∀ w', Fr (fun _ => False) X w' → Calls Try.prog 38 #[.pointer (some ⟨w.heap.size, 0, none⟩), .int .i64 i, .agg #[.bool false, .slice none 0 0]] w' fun e w'' => e = .returned (av (x.drop i).bytes) ∧ Fr (fun _ => False) w' w'') := Lib.hid fun w' f =>
    changed_any (hP.new f) k (by omega) (o := none) (b1 := false) (A1 := none) (n1 := 0) (k1 := 0) ⟨rfl, rfl⟩ (by have := drop_size k hi; have := k.sz; unfold PD.drop PD.size at *; simp only at *; omega)
  have hll : (x.drop i).bytes.length = 512 := (drop_ok k hi).len
  obtain ⟨pv, hpv⟩ : ∃ pv, pv = partV w.heap.size (512 - tot (x.s.take (i + 1))) (512 - tot (x.s.take i)) := ⟨_, rfl⟩
  rw [← hpv] at C1
  generalize (x.drop i).bytes = L at *
  clear hX hP0 hR0 g0 hP k hi hpv hlt
  go_enter Try.func17, Try.ntmps17
  go_wp2_with (first | (refine wpList_put rfl 26 _ rfl (cellsB x.bytes).toArray rfl ?_) | (refine wpList_zero rfl 26 rfl zeroPage ?_))
  rw [← HX.out]
  refine C1.mono ?_
  rintro e w1 ⟨rfl, f1⟩
  have HG1 := Lib.hid (HG0.out.trans f1 (fun _ _ q => q))
  have HR1 := Lib.hid (HR.out.keep f1 (fun q => q))
  have C2 := HC2.out w1 f1
  clear HC2
  clear C1 f1
  go_wp2_with fail
  refine C2.mono ?_
  rintro e w2 ⟨rfl, f2⟩
  have HG2 := Lib.hid (HG1.out.trans f2 (fun _ _ q => q))
  have HR2 := Lib.hid (HR1.out.keep f2 (fun q => q))
  clear C2 f2
  have hbR : Blk _ (w.heap.size + 1) 26 (cellsB (nought 512)).toArray := HR2.out
  have hbo := hbR.over (o := 0) (m := L) (by have h1 := nought_len 512; have h2 := hll; omega)
  rw [patch_all (by have h1 := nought_len 512; have h2 := hll; omega)] at hbo
  have HE := Lib.hid (And.intro hbo (Fr.setCells (F := fun _ => False) (b := w.heap.size + 1) (vs := cellsB L) (o := 0) (.inr (by omega)) HG2.out))
  have HBR := Lib.hid hbR
  clear hbR hbo
  go_wp2_with (refine wpList_store_mid rfl 26 _ _ rfl (w.heap.size + 1) 0 (cellsB L).toArray rfl rfl (HBR.out.there (by simp [cellsB_len, nought_len, hll])) (by rw [infoPage]; simp [cellsB_len, hll]) (all_oneCell_toArray (cellsB_one _)) ?_)
  refine bodyPost_ret (results_page2 rfl _ _ (w.heap.size + 1) L (.int .i64 0) (by simp) (by simp) hll HE.out.1) rfl ⟨rfl, HE.out.2⟩
set_option maxRecDepth 100000 in
theorem put_long6 {z : Int} (h : 400 < n) (hC : ∀ w P, PW w P x → ∃ v, Calls Try.prog 34 #[.pointer (some ⟨P, 0, none⟩), .int .i64 z] w fun e w' => e = .returned (.tuple #[v, .int .i64 6]) ∧ Fr (fun _ => False) w w') : Calls Try.prog 45 #[av x.bytes, .int .i64 z, .slice A n c] w fun e w' => e = .returned (.tuple #[av (nought 512), .int .i64 3]) ∧ Fr (fun _ => False) w w' := by
  obtain ⟨X, hX, hP0, hR0, g0⟩ := two_pages w x.bytes
  have hP : PW X w.heap.size x := hP0
  have HX := Lib.hid hX
  have HR := Lib.hid hR0
  have HG0 := Lib.hid g0
  obtain ⟨pv, C1⟩ := hC _ _ hP
  have h' : 400 < (n : Int) := by omega
  have hbs := zeroPage
  have hll : (nought 512).length = 512 := nought_len _
  clear hX hP0 hR0 g0 hP hC
  go_enter Try.func45, Try.ntmps45
  go_wp2_with (first | (refine wpList_put rfl 26 _ rfl (cellsB x.bytes).toArray rfl ?_) | (refine wpList_zero rfl 26 rfl zeroPage ?_))
  rw [← HX.out]
  refine C1.mono ?_
  rintro e w1 ⟨rfl, f1⟩
  have HG1 := Lib.hid (HG0.out.trans f1 (fun _ _ q => q))
  have HR1 := Lib.hid (HR.out.keep f1 (fun q => q))
  clear C1 f1
  have hbR : Blk _ (w.heap.size + 1) 26 (cellsB (nought 512)).toArray := HR1.out
  have hbo := hbR.over (o := 0) (m := (nought 512)) (by have h1 := nought_len 512; have h2 := hll; omega)
  rw [patch_all (by have h1 := nought_len 512; have h2 := hll; omega)] at hbo
  have HE := Lib.hid (And.intro hbo (Fr.setCells (F := fun _ => False) (b := w.heap.size + 1) (vs := cellsB (nought 512)) (o := 0) (.inr (by omega)) HG1.out))
  have HBR := Lib.hid hbR
  clear hbR hbo
  go_wp2_with (refine wpList_store_mid rfl 26 _ _ rfl (w.heap.size + 1) 0 (cellsB (nought 512)).toArray rfl rfl (HBR.out.there (by simp [cellsB_len, nought_len, hll])) (by rw [infoPage]; simp [cellsB_len, hll]) (all_oneCell_toArray (cellsB_one _)) ?_)
  refine bodyPost_ret (results_page2 rfl _ _ (w.heap.size + 1) (nought 512) (.int .i64 3) (by simp) (by simp) hll HE.out.1) rfl ⟨rfl, HE.out.2⟩
set_option maxRecDepth 100000 in
theorem put_long0 {z : Int} (h : 400 < n) (hC : ∀ w P, PW w P x → ∃ v, Calls Try.prog 34 #[.pointer (some ⟨P, 0, none⟩), .int .i64 z] w fun e w' => e = .returned (.tuple #[v, .int .i64 0]) ∧ Fr (fun _ => False) w w') : Calls Try.prog 45 #[av x.bytes, .int .i64 z, .slice A n c] w fun e w' => e = .returned (.tuple #[av (nought 512), .int .i64 3]) ∧ Fr (fun _ => False) w w' := by
  obtain ⟨X, hX, hP0, hR0, g0⟩ := two_pages w x.bytes
  have hP : PW X w.heap.size x := hP0
  have HX := Lib.hid hX
  have HR := Lib.hid hR0
  have HG0 := Lib.hid g0
  obtain ⟨pv, C1⟩ := hC _ _ hP
  have h' : 400 < (n : Int) := by omega
  have hbs := zeroPage
  have hll : (nought 512).length = 512 := nought_len _
  clear hX hP0 hR0 g0 hP hC
  go_enter Try.func45, Try.ntmps45
  go_wp2_with (first | (refine wpList_put rfl 26 _ rfl (cellsB x.bytes).toArray rfl ?_) | (refine wpList_zero rfl 26 rfl zeroPage ?_))
  rw [← HX.out]
  refine C1.mono ?_
  rintro e w1 ⟨rfl, f1⟩
  have HG1 := Lib.hid (HG0.out.trans f1 (fun _ _ q => q))
  have HR1 := Lib.hid (HR.out.keep f1 (fun q => q))
  clear C1 f1
  have hbR : Blk _ (w.heap.size + 1) 26 (cellsB (nought 512)).toArray := HR1.out
  have hbo := hbR.over (o := 0) (m := (nought 512)) (by have h1 := nought_len 512; have h2 := hll; omega)
  rw [patch_all (by have h1 := nought_len 512; have h2 := hll; omega)] at hbo
  have HE := Lib.hid (And.intro hbo (Fr.setCells (F := fun _ => False) (b := w.heap.size + 1) (vs := cellsB (nought 512)) (o := 0) (.inr (by omega)) HG1.out))
  have HBR := Lib.hid hbR
  clear hbR hbo
  go_wp2_with (refine wpList_store_mid rfl 26 _ _ rfl (w.heap.size + 1) 0 (cellsB (nought 512)).toArray rfl rfl (HBR.out.there (by simp [cellsB_len, nought_len, hll])) (by rw [infoPage]; simp [cellsB_len, hll]) (all_oneCell_toArray (cellsB_one _)) ?_)
  refine bodyPost_ret (results_page2 rfl _ _ (w.heap.size + 1) (nought 512) (.int .i64 3) (by simp) (by simp) hll HE.out.1) rfl ⟨rfl, HE.out.2⟩
set_option maxRecDepth 100000 in
theorem put_none6 {z : Int} (h : n ≤ 400) (hC : ∀ w P, PW w P x → ∃ v, Calls Try.prog 34 #[.pointer (some ⟨P, 0, none⟩), .int .i64 z] w fun e w' => e = .returned (.tuple #[v, .int .i64 6]) ∧ Fr (fun _ => False) w w') : Calls Try.prog 45 #[av x.bytes, .int .i64 z, .slice A n c] w fun e w' => e = .returned (.tuple #[av (nought 512), .int .i64 6]) ∧ Fr (fun _ => False) w w' := by
  obtain ⟨X, hX, hP0, hR0, g0⟩ := two_pages w x.bytes
  have hP : PW X w.heap.size x := hP0
  have HX := Lib.hid hX
  have HR := Lib.hid hR0
  have HG0 := Lib.hid g0
  obtain ⟨pv, C1⟩ := hC _ _ hP
  have h' : ¬ 400 < (n : Int) := by omega
  have hbs := zeroPage
  have hll : (nought 512).length = 512 := nought_len _
  clear hX hP0 hR0 g0 hP hC
  go_enter Try.func45, Try.ntmps45
  go_wp2_with (first | (refine wpList_put rfl 26 _ rfl (cellsB x.bytes).toArray rfl ?_) | (refine wpList_zero rfl 26 rfl zeroPage ?_))
  rw [← HX.out]
  refine C1.mono ?_
  rintro e w1 ⟨rfl, f1⟩
  have HG1 := Lib.hid (HG0.out.trans f1 (fun _ _ q => q))
  have HR1 := Lib.hid (HR.out.keep f1 (fun q => q))
  clear C1 f1
  have hbR : Blk _ (w.heap.size + 1) 26 (cellsB (nought 512)).toArray := HR1.out
  have hbo := hbR.over (o := 0) (m := (nought 512)) (by have h1 := nought_len 512; have h2 := hll; omega)
  rw [patch_all (by have h1 := nought_len 512; have h2 := hll; omega)] at hbo
  have HE := Lib.hid (And.intro hbo (Fr.setCells (F := fun _ => False) (b := w.heap.size + 1) (vs := cellsB (nought 512)) (o := 0) (.inr (by omega)) HG1.out))
  have HBR := Lib.hid hbR
  clear hbR hbo
  go_wp2_with (refine wpList_store_mid rfl 26 _ _ rfl (w.heap.size + 1) 0 (cellsB (nought 512)).toArray rfl rfl (HBR.out.there (by simp [cellsB_len, nought_len, hll])) (by rw [infoPage]; simp [cellsB_len, hll]) (all_oneCell_toArray (cellsB_one _)) ?_)
  refine bodyPost_ret (results_page2 rfl _ _ (w.heap.size + 1) (nought 512) (.int .i64 6) (by simp) (by simp) hll HE.out.1) rfl ⟨rfl, HE.out.2⟩
set_option maxRecDepth 100000 in
theorem put_full (k : x.Ok) {i : Nat} {o : List UInt8} (hi : x.s[i]? = some (some o)) (hr : Rd w A n b) (h : n ≤ 400) (hf : 512 < (x.put i b).size) : Calls Try.prog 45 #[av x.bytes, .int .i64 i, .slice A n c] w fun e w' => e = .returned (.tuple #[av (nought 512), .int .i64 8]) ∧ Fr (fun _ => False) w w' := by
  obtain ⟨X, hX, hP0, hR0, g0⟩ := two_pages w x.bytes
  have hP : PW X w.heap.size x := hP0
  have HX := Lib.hid hX
  have HR := Lib.hid hR0
  have HG0 := Lib.hid g0
  have hlt := (List.getElem?_eq_some_iff.1 hi).1
  have C1 := find_some hP k hi
  have h1 := tot_snoc hi
  have h2 := tot_take_le x.s (i + 1)
  have h3 := k.sz
  simp only [rl, Option.getD_some] at h1
  obtain ⟨m, hm⟩ : ∃ m, m = o.length := ⟨_, rfl⟩
  obtain ⟨fr, hfr⟩ : ∃ fr, fr = 512 - (12 + 4 * x.s.length + tot x.s) := ⟨_, rfl⟩
  obtain ⟨PA, hpv⟩ : ∃ PA, partV w.heap.size (512 - tot (x.s.take (i + 1))) (512 - tot (x.s.take i)) = .slice PA m m := ⟨_, by unfold partV; rw [show 512 - tot (x.s.take i) - (512 - tot (x.s.take (i + 1))) = m by omega]⟩
  rw [hpv] at C1
  have HC2 : Hid (∀ w', Fr (fun _ => False) X w' → Calls Try.prog 68 #[.pointer (some ⟨w.heap.size, 0, none⟩)] w' fun e w'' => e = .returned (.int .i64 fr) ∧ w' = w'') := Lib.hid fun w' f => by rw [hfr]; exact free_any (hP.new f) k
  have hps := put_size hi b
  have hnn := hr.len
  have hfr9 : fr ≤ 512 := by omega
  have hm9 : m ≤ 512 := by omega
  have h' : ¬ 400 < (n : Int) := by omega
  have hxs : x.size = 12 + 4 * x.s.length + tot x.s := rfl
  have hq : fr + m < n := by omega
  clear hxs
  have hq' : ((fr : Int) + (m : Int)) < (n : Int) := by omega
  have hbs := zeroPage
  have hll : (nought 512).length = 512 := nought_len _
  clear hX hP0 hR0 g0 hP k hi hpv hlt hr h1 h2 h3 hm hfr hps hnn hf hq
  go_enter Try.func45, Try.ntmps45
  go_wp2_with (first | (refine wpList_put rfl 26 _ rfl (cellsB x.bytes).toArray rfl ?_) | (refine wpList_zero rfl 26 rfl zeroPage ?_))
  rw [← HX.out]
  refine C1.mono ?_
  rintro e w1 ⟨rfl, f1⟩
  have HG1 := Lib.hid (HG0.out.trans f1 (fun _ _ q => q))
  have HR1 := Lib.hid (HR.out.keep f1 (fun q => q))
  have C2 := HC2.out w1 f1
  clear HC2
  clear C1 f1
  go_wp2_with fail
  refine C2.mono ?_
  rintro e w' ⟨rfl, rfl⟩
  clear C2
  have hbR : Blk _ (w.heap.size + 1) 26 (cellsB (nought 512)).toArray := HR1.out
  have hbo := hbR.over (o := 0) (m := (nought 512)) (by have h1 := nought_len 512; have h2 := hll; omega)
  rw [patch_all (by have h1 := nought_len 512; have h2 := hll; omega)] at hbo
  have HE := Lib.hid (And.intro hbo (Fr.setCells (F := fun _ => False) (b := w.heap.size + 1) (vs := cellsB (nought 512)) (o := 0) (.inr (by omega)) HG1.out))
  have HBR := Lib.hid hbR
  clear hbR hbo
  go_wp2_with (refine wpList_store_mid rfl 26 _ _ rfl (w.heap.size + 1) 0 (cellsB (nought 512)).toArray rfl rfl (HBR.out.there (by simp [cellsB_len, nought_len, hll])) (by rw [infoPage]; simp [cellsB_len, hll]) (all_oneCell_toArray (cellsB_one _)) ?_)
  refine bodyPost_ret (results_page2 rfl _ _ (w.heap.size + 1) (nought 512) (.int .i64 8) (by simp) (by simp) hll HE.out.1) rfl ⟨rfl, HE.out.2⟩
set_option maxRecDepth 100000 in
theorem put_any (k : x.Ok) {i : Nat} {o : List UInt8} (hi : x.s[i]? = some (some o)) (hr : Rd w A n b) (h : n ≤ 400) (hf : (x.put i b).size ≤ 512) : Calls Try.prog 45 #[av x.bytes, .int .i64 i, .slice A n c] w fun e w' => e = .returned (.tuple #[av (x.put i b).bytes, .int .i64 0]) ∧ Fr (fun _ => False) w w' := by
  obtain ⟨X, hX, hP0, hR0, g0⟩ := two_pages w x.bytes
  have hP : PW X w.heap.size x := hP0
  have HX := Lib.hid hX
  have HR := Lib.hid hR0
  have HG0 := Lib.hid g0
  have hlt := (List.getElem?_eq_some_iff.1 hi).1
  have C1 := find_some hP k hi
  have h1 := tot_snoc hi
  have h2 := tot_take_le x.s (i + 1)
  have h3 := k.sz
  simp only [rl, Option.getD_some] at h1
  obtain ⟨m, hm⟩ : ∃ m, m = o.length := ⟨_, rfl⟩
  obtain ⟨fr, hfr⟩ : ∃ fr, fr = 512 - (12 + 4 * x.s.length + tot x.s) := ⟨_, rfl⟩
  obtain ⟨PA, hpv⟩ : ∃ PA, partV w.heap.size (512 - tot (x.s.take (i + 1))) (512 - tot (x.s.take i)) = .slice PA m m := ⟨_, by unfold partV; rw [show 512 - tot (x.s.take i) - (512 - tot (x.s.take (i + 1))) = m by omega]⟩
  rw [hpv] at C1
  have HC2 : Hid (∀ w', Fr (fun _ => False) X w' → Calls Try.prog 68 #[.pointer (some ⟨w.heap.size, 0, none⟩)] w' fun e w'' => e = .returned (.int .i64 fr) ∧ w' = w'') := Lib.hid fun w' f => by rw [hfr]; exact free_any (hP.new f) k
  have hps := put_size hi b
  have hnn := hr.len
  have hfr9 : fr ≤ 512 := by omega
  have hm9 : m ≤ 512 := by omega
  have h' : ¬ 400 < (n : Int) := by omega
  have hxs : x.size = 12 + 4 * x.s.length + tot x.s := rfl
  have hq : n ≤ fr + m := by omega
  clear hxs
  have hq' : ¬ ((fr : Int) + (m : Int)) < (n : Int) := by omega
  have HC3 : Hid (∀ w', Fr (fun _ => False) X w' → Calls Try.prog 38 #[.pointer (some ⟨w.heap.size, 0, none⟩), .int .i64 i, .agg #[.bool true, .slice A n c]] w' fun e w'' => e = .returned (av (x.put i b).bytes) ∧ Fr (fun _ => False) w' w'') := Lib.hid fun w' f => by
    have ht : trim (putS x.s i (some b)) = putS x.s i (some b) := putS_trim (by omega) k.ls
    have := changed_any (i := i) (hP.new f) k (by omega) (o := some b) (b1 := true) (A1 := A) (n1 := n) (k1 := c) ⟨rfl, A, c, by rw [hnn], by rw [hnn]; exact (hr.keep g0 (fun _ _ q => q)).keep f (fun _ _ q => q)⟩ (by rw [ht]; exact hf)
    rw [ht] at this
    exact this
  have hll : (x.put i b).bytes.length = 512 := (put_ok k hi (by omega) hf).len
  generalize (x.put i b).bytes = L at *
  clear hX hP0 hR0 g0 hP k hi hpv hlt hr h1 h2 h3 hm hfr hps hnn hf hq
  go_enter Try.func45, Try.ntmps45
  go_wp2_with (first | (refine wpList_put rfl 26 _ rfl (cellsB x.bytes).toArray rfl ?_) | (refine wpList_zero rfl 26 rfl zeroPage ?_))
  rw [← HX.out]
  refine C1.mono ?_
  rintro e w1 ⟨rfl, f1⟩
  have HG1 := Lib.hid (HG0.out.trans f1 (fun _ _ q => q))
  have HR1 := Lib.hid (HR.out.keep f1 (fun q => q))
  have C2 := HC2.out w1 f1
  have C3 := HC3.out w1 f1
  clear HC2 HC3
  clear C1 f1
  go_wp2_with fail
  refine C2.mono ?_
  rintro e w' ⟨rfl, rfl⟩
  clear C2
  go_wp2_with fail
  refine C3.mono ?_
  rintro e w2 ⟨rfl, f2⟩
  have HG2 := Lib.hid (HG1.out.trans f2 (fun _ _ q => q))
  have HR2 := Lib.hid (HR1.out.keep f2 (fun q => q))
  clear C3 f2
  have hbR : Blk _ (w.heap.size + 1) 26 (cellsB (nought 512)).toArray := HR2.out
  have hbo := hbR.over (o := 0) (m := L) (by have h1 := nought_len 512; have h2 := hll; omega)
  rw [patch_all (by have h1 := nought_len 512; have h2 := hll; omega)] at hbo
  have HE := Lib.hid (And.intro hbo (Fr.setCells (F := fun _ => False) (b := w.heap.size + 1) (vs := cellsB L) (o := 0) (.inr (by omega)) HG2.out))
  have HBR := Lib.hid hbR
  clear hbR hbo
  go_wp2_with (refine wpList_store_mid rfl 26 _ _ rfl (w.heap.size + 1) 0 (cellsB L).toArray rfl rfl (HBR.out.there (by simp [cellsB_len, nought_len, hll])) (by rw [infoPage]; simp [cellsB_len, hll]) (all_oneCell_toArray (cellsB_one _)) ?_)
  refine bodyPost_ret (results_page2 rfl _ _ (w.heap.size + 1) L (.int .i64 0) (by simp) (by simp) hll HE.out.1) rfl ⟨rfl, HE.out.2⟩
end
end Go.Proofs.Ytijdbngjnhhheaa
