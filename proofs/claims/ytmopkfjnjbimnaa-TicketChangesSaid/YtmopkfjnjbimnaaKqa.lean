/- The writer's calls, of a writer that stands in a ticket's putter. -/
import Derived.Test.YtmopkfjnjbimnaaKpk
namespace Go.Proofs.Ytmopkfjnjbimnaa.Pw
open Go.RowKit

/-- In block g stands a writer that has put l (f: it failed), in a row of its own, from block B on. -/
structure Wr (w : World) (B g : Nat) (v : Value) (l : List UInt8) (f : Bool) : Prop where
  blk : Blk w g 68 #[v, .bool f]
  own : w.ownsRow B 5 1 v l.length (cellsB l)
  base : B ≤ g
  gone : f = true → l = []
set_option maxRecDepth 100000 in
theorem Wr.keep {F : Nat → Prop} {w w' : World} {B g : Nat} {v : Value} {l : List UInt8} {f : Bool} (h : Wr w B g v l f) (hf : Fr F w w') (hF : ∀ k, WrF g v k → ¬ F k) : Wr w' B g v l f :=
  ⟨h.blk.keep hf (hF g (.inl rfl)), own_keep h.own hf (fun k hk => hF k (.inr hk)), h.base, h.gone⟩
set_option maxRecDepth 100000 in
theorem fail_any {w : World} {B g : Nat} {v : Value} {l : List UInt8} {f : Bool} (h : Wr w B g v l f) :
    Calls Try.prog 98 #[.pointer (some ⟨g, 0, none⟩)] w fun e w' => e = .returned (.pointer (some ⟨g, 0, none⟩)) ∧ Wr w' B g (.slice none 0 0) [] true ∧ Fr (fun k => k = g) w w' := by
  have h0 := h.blk.cell 0
  have h1 := h.blk.cell 1
  have f0 := h.blk.frozen 0
  have f1 := h.blk.frozen 1
  simp at h0 h1
  go_enter Try.func98, Try.ntmps98
  go_wp2
  go_ret
  refine ⟨rfl, ⟨?_, World.ownsRow_nil _ _ _ _, h.base, fun _ => rfl⟩, ?_⟩
  · exact (h.blk.set_ 0 _).set_ 1 _
  · exact ((Fr.refl (fun k => k = g) w).setCell (p := ⟨g, 0, none⟩) (.inl rfl) _).setCell (p := ⟨g, 1, none⟩) (.inl rfl) _
set_option maxRecDepth 100000 in
theorem bytes_failed {w : World} {B g : Nat} {v : Value} {l : List UInt8} (h : Wr w B g v l true) (A : Option Addr) (n c : Nat) :
    Calls Try.prog 99 #[.pointer (some ⟨g, 0, none⟩), .slice A n c] w fun e w' => e = .returned (.pointer (some ⟨g, 0, none⟩)) ∧ w = w' := by
  have h0 := h.blk.cell 0
  have h1 := h.blk.cell 1
  simp at h0 h1
  go_enter Try.func99, Try.ntmps99
  go_wp2
  go_ret
  exact ⟨rfl, rfl⟩
set_option maxRecDepth 100000 in
set_option maxHeartbeats 400000 in
theorem bytes_any {w : World} {B g : Nat} {v : Value} {xs : List UInt8} (h : Wr w B g v xs false) {A : Option Addr} {n c : Nat} {l : List UInt8} (hr : Rd w A n l) (hb : xs.length + n ≤ 140737488355328) :
    Calls Try.prog 99 #[.pointer (some ⟨g, 0, none⟩), .slice A n c] w fun e w' => e = .returned (.pointer (some ⟨g, 0, none⟩)) ∧
      ∃ v', Wr w' B g v' (xs ++ l) false ∧ Fr (WrF g v) w w' ∧ (v'.ownBlock = v.ownBlock ∨ v'.ownBlock = some w.heap.size) := by
  obtain ⟨i0, hi, hz0, hz1, hz2⟩ := info_parts infoU8
  have h0 := h.blk.cell 0
  have h1 := h.blk.cell 1
  simp at h0 h1
  have hlt := h.blk.lt
  have hbase := h.base
  go_enter Try.func99, Try.ntmps99
  go_wp2_with (at_builtin; refine wpList_append_bytes _ rfl _ _ 31 rfl B 5 i0 (.int .u8 0) Try.underlying31 hi hz0 hz1 hz2 rfl v xs l rfl h.own A n c rfl hr hb (by omega) ?_; intro v' w' hown hgrow hat; obtain ⟨A', n', c', rfl⟩ := own_form hown; have hF : Fr (WrF g v) w w' := (Fr.refl _ _).grown hgrow (fun k hk => .inl (.inr hk)); have hgo : v.ownBlock ≠ some g := own_ne h.own h.blk (by decide); have hb' : Blk w' g _ #[v, .bool false] := (hgrow.block g hlt (fun e => hgo e.symm)).trans h.blk; have h0' := hb'.cell 0; have f0' := hb'.frozen 0; simp at h0')
  go_ret
  refine ⟨rfl, .slice A' n' c', ⟨hb'.set_ 0 _, ?_, hbase, fun h => by cases h⟩, hF.setCell (p := ⟨g, 0, none⟩) (.inl (.inl rfl)) _, hat⟩
  have hlt' := hb'.lt
  exact own_keep hown ((Fr.refl (fun k => k = g) w').setCell (p := ⟨g, 0, none⟩) (.inl rfl) _) (fun k hk e => own_ne hown hb' (by decide) (by rw [hk, e]))
set_option maxRecDepth 100000 in
set_option maxHeartbeats 2000000 in
theorem number_any {w : World} {B g : Nat} {v : Value} {xs : List UInt8} (h : Wr w B g v xs false) (n s : Nat) (hs : fitsB n s) (hn : n ≤ 18446744073709551615) (hb : xs.length + 8 ≤ 140737488355328) :
    Calls Try.prog 74 #[.pointer (some ⟨g, 0, none⟩), .int .u64 n, .int .i64 s] w fun e w' => e = .returned (.pointer (some ⟨g, 0, none⟩)) ∧
      ∃ v', Wr w' B g v' (xs ++ be n s) false ∧ Fr (WrF g v) w w' ∧ (v'.ownBlock = v.ownBlock ∨ ∀ k, v'.ownBlock = some k → w.heap.size ≤ k) := by
  have hrd := Lib.hid (rd_be (w := w) hs)
  have hw1 : Wr (w.alloc (.cells (beArr n 8) 150)) B g v xs false := h.keep (F := fun _ => False) ((Fr.refl _ _).alloc _) (fun _ _ => id)
  have hlt : ∀ k, WrF g v k → k < w.heap.size := by
    rintro k (rfl | hk)
    · exact h.blk.lt
    · exact (h.own.lt k hk).2
  unfold fitsB at hs
  rcases hs with ⟨rfl, hs⟩ | ⟨rfl, hs⟩ | ⟨rfl, hs⟩ | rfl
  all_goals
    go_enter Try.func74, Try.ntmps74
    go_wp2_with fail
    refine (maySize_yes _ rfl _).mono ?_
    rintro e w' ⟨rfl, rfl⟩
    go_wp2_with fail
    go_loopw [21] (fun i wr => ∃ k : Nat, k ≤ 8 ∧ i = .int .i64 k ∧ wr = w.alloc (.cells (beArr n k) 150)) (fun i _ => 8 - (intOf i).toNat)
    case atStart => exact ⟨0, by omega, rfl, rfl⟩
    case round =>
      obtain ⟨k, hk, rfl, rfl⟩ := hrel
      have hk' : k = 0 ∨ k = 1 ∨ k = 2 ∨ k = 3 ∨ k = 4 ∨ k = 5 ∨ k = 6 ∨ k = 7 ∨ k = 8 := by omega
      clear hk
      rcases hk' with rfl | rfl | rfl | rfl | rfl | rfl | rfl | rfl | rfl
      rotate_right
      · go_wp2_with fail
        refine (bytes_any hw1 hrd.out (by omega)).mono ?_
        rintro e w' ⟨rfl, v', h1, h2, h3⟩
        go_wp2_with fail
        go_ret
        refine ⟨rfl, v', h1, ((Fr.refl _ w).alloc _).trans h2 (fun _ _ => id), h3.imp id (fun e k hk => ?_)⟩
        rw [hk] at e
        injection e with e
        rw [e]
        simp
      all_goals
        unfold beArr
        go_wp2_with fail
        first
          | refine ⟨⟨1, by omega, rfl, congrArg (fun a => World.alloc w (.cells a 150)) ?_⟩, by simp [intOf]⟩
          | refine ⟨⟨2, by omega, rfl, congrArg (fun a => World.alloc w (.cells a 150)) ?_⟩, by simp [intOf]⟩
          | refine ⟨⟨3, by omega, rfl, congrArg (fun a => World.alloc w (.cells a 150)) ?_⟩, by simp [intOf]⟩
          | refine ⟨⟨4, by omega, rfl, congrArg (fun a => World.alloc w (.cells a 150)) ?_⟩, by simp [intOf]⟩
          | refine ⟨⟨5, by omega, rfl, congrArg (fun a => World.alloc w (.cells a 150)) ?_⟩, by simp [intOf]⟩
          | refine ⟨⟨6, by omega, rfl, congrArg (fun a => World.alloc w (.cells a 150)) ?_⟩, by simp [intOf]⟩
          | refine ⟨⟨7, by omega, rfl, congrArg (fun a => World.alloc w (.cells a 150)) ?_⟩, by simp [intOf]⟩
          | refine ⟨⟨8, by omega, rfl, congrArg (fun a => World.alloc w (.cells a 150)) ?_⟩, by simp [intOf]⟩
        simp [beB]
        try omega
/-- A writer that has put what o says (none: it failed). -/
def WrS (w : World) (B g : Nat) (v : Value) (o : Option (List UInt8)) : Prop := Wr w B g v (o.getD []) o.isNone
set_option maxRecDepth 100000 in
theorem WrS.keep {F : Nat → Prop} {w w' : World} {B g : Nat} {v : Value} {o : Option (List UInt8)} (h : WrS w B g v o) (hf : Fr F w w') (hF : ∀ k, WrF g v k → ¬ F k) : WrS w' B g v o :=
  Wr.keep h hf hF
/-- What a writer's method gives: the writer itself, that has put o. -/
def Puts (w : World) (B g : Nat) (v : Value) (o : Option (List UInt8)) (e : Ending) (w' : World) : Prop :=
  e = .returned (.pointer (some ⟨g, 0, none⟩)) ∧ ∃ v', WrS w' B g v' o ∧ Fr (WrF g v) w w' ∧ (∀ k, v'.ownBlock = some k → v.ownBlock = some k ∨ w.heap.size ≤ k)
set_option maxRecDepth 100000 in
theorem fail_puts {w : World} {B g : Nat} {v : Value} {o : Option (List UInt8)} (h : WrS w B g v o) :
    Calls Try.prog 98 #[.pointer (some ⟨g, 0, none⟩)] w (Puts w B g v none) :=
  (fail_any h).mono fun _ _ ⟨he, hw, hf⟩ => ⟨he, _, hw, hf.mono (fun _ _ e => .inl e), fun _ hk => by cases hk⟩
set_option maxRecDepth 100000 in
theorem bytes_puts {w : World} {B g : Nat} {v : Value} {o : Option (List UInt8)} (h : WrS w B g v o) {A : Option Addr} {n c : Nat} {l : List UInt8} (hr : Rd w A n l) (hb : roomS o n) :
    Calls Try.prog 99 #[.pointer (some ⟨g, 0, none⟩), .slice A n c] w (Puts w B g v (o.map (· ++ l))) := by
  cases o with
  | none => exact (bytes_failed h A n c).mono fun _ _ ⟨he, hw⟩ => ⟨he, v, hw ▸ h, hw ▸ Fr.refl _ _, fun _ hk => .inl hk⟩
  | some xs =>
    refine (bytes_any h hr hb).mono fun _ _ ⟨he, v', h1, h2, h3⟩ => ⟨he, v', h1, h2, fun k hk => ?_⟩
    rcases h3 with e | e
    · exact .inl (e ▸ hk)
    · rw [hk] at e
      injection e with e
      exact .inr (by omega)
set_option maxRecDepth 100000 in
set_option maxHeartbeats 1000000 in
theorem number_bad {w : World} {B g : Nat} {v : Value} {o : Option (List UInt8)} (h : WrS w B g v o) (n : Nat) (s : Int) (hs : numOk n s = false) (hn : n ≤ 18446744073709551615) :
    Calls Try.prog 74 #[.pointer (some ⟨g, 0, none⟩), .int .u64 n, .int .i64 s] w (Puts w B g v none) := by
  have hs' : ¬ ((s = 1 ∧ n < 256) ∨ (s = 2 ∧ n < 65536) ∨ (s = 4 ∧ n < 4294967296) ∨ s = 8) := by simpa [numOk] using hs
  cases hm : maySz s with
  | false =>
    have hm' := Lib.hid hm
    clear hm hs hs'
    go_enter Try.func74, Try.ntmps74
    go_wp2_with fail
    refine (maySize_no s hm'.out _).mono ?_
    rintro e w' ⟨rfl, rfl⟩
    go_wp2_with fail
    refine (fail_puts h).mono ?_
    rintro e w' ⟨rfl, hp⟩
    go_wp2_with fail
    go_ret
    exact ⟨rfl, hp⟩
  | true =>
    have hm' : s = 1 ∨ s = 2 ∨ s = 4 ∨ s = 8 := by simpa [maySz, or_assoc] using hm
    clear hm
    have hq : (s = 1 ∧ 256 ≤ n) ∨ (s = 2 ∧ 65536 ≤ n) ∨ (s = 4 ∧ 4294967296 ≤ n) := by omega
    clear hm' hs hs'
    rcases hq with ⟨rfl, hq⟩ | ⟨rfl, hq⟩ | ⟨rfl, hq⟩
    all_goals
      go_enter Try.func74, Try.ntmps74
      go_wp2_with fail
      refine (maySize_yes _ rfl _).mono ?_
      rintro e w' ⟨rfl, rfl⟩
      go_wp2_with fail
      refine (fail_puts h).mono ?_
      rintro e w' ⟨rfl, hp⟩
      go_wp2_with fail
      go_ret
      exact ⟨rfl, hp⟩
set_option maxRecDepth 100000 in
set_option maxHeartbeats 2000000 in
/-- A failed writer, and a number that would go. -/
theorem number_failed {w : World} {B g : Nat} {v : Value} (h : WrS w B g v none) (n s : Nat) (hs : fitsB n s) (hn : n ≤ 18446744073709551615) :
    Calls Try.prog 74 #[.pointer (some ⟨g, 0, none⟩), .int .u64 n, .int .i64 s] w (Puts w B g v none) := by
  have hw1 : WrS (w.alloc (.cells (beArr n 8) 150)) B g v none := h.keep (F := fun _ => False) ((Fr.refl _ _).alloc _) (fun _ _ => id)
  unfold fitsB at hs
  rcases hs with ⟨rfl, hs⟩ | ⟨rfl, hs⟩ | ⟨rfl, hs⟩ | rfl
  all_goals
    go_enter Try.func74, Try.ntmps74
    go_wp2_with fail
    refine (maySize_yes _ rfl _).mono ?_
    rintro e w' ⟨rfl, rfl⟩
    go_wp2_with fail
    go_loopw [21] (fun i wr => ∃ k : Nat, k ≤ 8 ∧ i = .int .i64 k ∧ wr = w.alloc (.cells (beArr n k) 150)) (fun i _ => 8 - (intOf i).toNat)
    case atStart => exact ⟨0, by omega, rfl, rfl⟩
    case round =>
      obtain ⟨k, hk, rfl, rfl⟩ := hrel
      have hk' : k = 0 ∨ k = 1 ∨ k = 2 ∨ k = 3 ∨ k = 4 ∨ k = 5 ∨ k = 6 ∨ k = 7 ∨ k = 8 := by omega
      clear hk
      rcases hk' with rfl | rfl | rfl | rfl | rfl | rfl | rfl | rfl | rfl
      rotate_right
      · go_wp2_with fail
        refine (bytes_failed hw1 _ _ _).mono ?_
        rintro e w' ⟨rfl, rfl⟩
        go_wp2_with fail
        go_ret
        exact ⟨rfl, v, hw1, (Fr.refl _ w).alloc _, fun _ hk => .inl hk⟩
      all_goals
        unfold beArr
        go_wp2_with fail
        first
          | refine ⟨⟨1, by omega, rfl, congrArg (fun a => World.alloc w (.cells a 150)) ?_⟩, by simp [intOf]⟩
          | refine ⟨⟨2, by omega, rfl, congrArg (fun a => World.alloc w (.cells a 150)) ?_⟩, by simp [intOf]⟩
          | refine ⟨⟨3, by omega, rfl, congrArg (fun a => World.alloc w (.cells a 150)) ?_⟩, by simp [intOf]⟩
          | refine ⟨⟨4, by omega, rfl, congrArg (fun a => World.alloc w (.cells a 150)) ?_⟩, by simp [intOf]⟩
          | refine ⟨⟨5, by omega, rfl, congrArg (fun a => World.alloc w (.cells a 150)) ?_⟩, by simp [intOf]⟩
          | refine ⟨⟨6, by omega, rfl, congrArg (fun a => World.alloc w (.cells a 150)) ?_⟩, by simp [intOf]⟩
          | refine ⟨⟨7, by omega, rfl, congrArg (fun a => World.alloc w (.cells a 150)) ?_⟩, by simp [intOf]⟩
          | refine ⟨⟨8, by omega, rfl, congrArg (fun a => World.alloc w (.cells a 150)) ?_⟩, by simp [intOf]⟩
        simp [beB]
        try omega
set_option maxRecDepth 100000 in
theorem number_puts {w : World} {B g : Nat} {v : Value} {o : Option (List UInt8)} (h : WrS w B g v o) (n : Nat) (s : Int) (hn : n ≤ 18446744073709551615) (hb : roomS o 8) :
    Calls Try.prog 74 #[.pointer (some ⟨g, 0, none⟩), .int .u64 n, .int .i64 s] w (Puts w B g v (putNum o n s)) := by
  cases hs : numOk n s with
  | false =>
    have e : putNum o n s = none := by cases o <;> simp [putNum, hs]
    rw [e]
    exact number_bad h n s hs hn
  | true =>
    obtain ⟨k, rfl, hk⟩ := numOk_fits hs
    cases o with
    | none => exact number_failed h n k hk hn
    | some xs =>
      have e : putNum (some xs) n (k : Int) = some (xs ++ be n k) := by simp [putNum, hs]
      rw [e]
      exact (number_any h n k hk hn hb).mono fun _ _ ⟨he, v', h1, h2, h3⟩ => ⟨he, v', h1, h2, fun i hi => by
        rcases h3 with e | q
        · exact .inl (by rw [← e]; exact hi)
        · exact .inr (q i hi)⟩
set_option maxRecDepth 100000 in
theorem end_failed {w : World} {B g : Nat} {v : Value} (h : WrS w B g v none) :
    Calls Try.prog 32 #[.pointer (some ⟨g, 0, none⟩)] w fun e w' => e = .returned (.tuple #[.slice none 0 0, .int .i64 2]) ∧ w = w' := by
  have h1 := h.blk.cell 1
  simp at h1
  go_enter Try.func32, Try.ntmps32
  go_wp2
  go_ret2
  exact ⟨rfl, rfl⟩
set_option maxRecDepth 100000 in
theorem end_any {w : World} {B g : Nat} {v : Value} {l : List UInt8} (h : WrS w B g v (some l)) (hl : l.length ≤ 140737488355328) :
    Calls Try.prog 32 #[.pointer (some ⟨g, 0, none⟩)] w fun e w' => ∃ x, e = .returned (.tuple #[x, .int .i64 0]) ∧ Makes w l x w' := by
  have h0 := h.blk.cell 0
  have h1 := h.blk.cell 1
  have ho := h.own
  have e : (some l).getD [] = l := rfl
  rw [e] at ho
  obtain ⟨A, c, rfl, hA, _, _, hr⟩ := own_rd ho
  simp at h0 h1
  have H := Lib.hid hr
  have HA := Lib.hid hA
  clear hr hA e
  go_enter Try.func32, Try.ntmps32
  go_wp2_with fail
  refine (clone_any H.out HA.out hl).mono ?_
  rintro e w' ⟨x, rfl, hm⟩
  go_wp2_with fail
  go_ret2
  exact ⟨x, rfl, hm⟩
set_option maxRecDepth 100000 in
theorem WrS.new (w : World) : WrS (w.alloc (.cells #[.slice none 0 0, .bool false] 68)) w.heap.size w.heap.size (.slice none 0 0) (some []) :=
  ⟨Blk.new _ _ _, World.ownsRow_nil _ _ _ _, Nat.le_refl _, fun h => by cases h⟩
set_option maxRecDepth 100000 in
theorem WrS.lt {w : World} {B g : Nat} {v : Value} {o : Option (List UInt8)} (h : WrS w B g v o) {k : Nat} (hk : WrF g v k) : k < w.heap.size := by
  rcases hk with rfl | hk
  · exact h.blk.lt
  · exact (h.own.lt k hk).2
set_option maxRecDepth 100000 in
theorem WrS.alloc {w : World} {B g : Nat} {v : Value} {o : Option (List UInt8)} (h : WrS w B g v o) (x : Obj) : WrS (w.alloc x) B g v o := h.keep (F := fun _ => False) ((Fr.refl _ _).alloc x) (fun _ _ => id)
end Go.Proofs.Ytmopkfjnjbimnaa.Pw
