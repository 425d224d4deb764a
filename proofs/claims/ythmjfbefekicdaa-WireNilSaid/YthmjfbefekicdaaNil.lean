/- The law WireNil, walked: what writers and readers that are not there, and zero ones, answer. -/
import Derived.Test.YthmjfbefekicdaaRest
import Derived.Test.YthmjfbefekicdaaKnown
namespace Go.Proofs.Ythmjfbefekicdaa
open Go.RowKit

set_option maxHeartbeats 2000000 in
theorem number_nil (w : World) (n s : Nat) (hs : fitsB n s) (hn : n ≤ 18446744073709551615) :
    Calls Try.prog 27 #[.pointer none, .int .u64 n, .int .i64 s] w fun e w' => e = .returned (.pointer none) ∧ Fr (fun _ => False) w w' := by
  unfold fitsB at hs
  rcases hs with ⟨rfl, hs⟩ | ⟨rfl, hs⟩ | ⟨rfl, hs⟩ | rfl
  all_goals
    go_enter Try.func27, Try.ntmps27
    go_wp2_with fail
    refine (maySize_yes _ rfl _).mono ?_
    rintro e w' ⟨rfl, rfl⟩
    go_wp2_with fail
    go_loopw [21] (fun i wr => ∃ k : Nat, k ≤ 8 ∧ i = .int .i64 k ∧ wr = w.alloc (.cells (beArr n k) 93)) (fun i _ => 8 - (intOf i).toNat)
    case atStart => exact ⟨0, by omega, rfl, rfl⟩
    case round =>
      obtain ⟨k, hk, rfl, rfl⟩ := hrel
      have hk' : k = 0 ∨ k = 1 ∨ k = 2 ∨ k = 3 ∨ k = 4 ∨ k = 5 ∨ k = 6 ∨ k = 7 ∨ k = 8 := by omega
      clear hk
      rcases hk' with rfl | rfl | rfl | rfl | rfl | rfl | rfl | rfl | rfl
      rotate_right
      · go_wp2_with fail
        refine (bytes_nil _ _ _ _).mono ?_
        rintro e w' ⟨rfl, rfl⟩
        go_wp2_with fail
        go_ret
        exact ⟨rfl, (Fr.refl _ w).alloc _⟩
      all_goals
        unfold beArr
        go_wp2_with fail
        first
          | refine ⟨⟨1, by omega, rfl, congrArg (fun a => World.alloc w (.cells a 93)) ?_⟩, by simp [intOf]⟩
          | refine ⟨⟨2, by omega, rfl, congrArg (fun a => World.alloc w (.cells a 93)) ?_⟩, by simp [intOf]⟩
          | refine ⟨⟨3, by omega, rfl, congrArg (fun a => World.alloc w (.cells a 93)) ?_⟩, by simp [intOf]⟩
          | refine ⟨⟨4, by omega, rfl, congrArg (fun a => World.alloc w (.cells a 93)) ?_⟩, by simp [intOf]⟩
          | refine ⟨⟨5, by omega, rfl, congrArg (fun a => World.alloc w (.cells a 93)) ?_⟩, by simp [intOf]⟩
          | refine ⟨⟨6, by omega, rfl, congrArg (fun a => World.alloc w (.cells a 93)) ?_⟩, by simp [intOf]⟩
          | refine ⟨⟨7, by omega, rfl, congrArg (fun a => World.alloc w (.cells a 93)) ?_⟩, by simp [intOf]⟩
          | refine ⟨⟨8, by omega, rfl, congrArg (fun a => World.alloc w (.cells a 93)) ?_⟩, by simp [intOf]⟩
        simp [beB]
        try omega

/-- A nil writer's answer: itself. -/
def NilW (w : World) (e : Ending) (w' : World) : Prop := e = .returned (.pointer none) ∧ Fr (fun _ => False) w w'

theorem number_nil1 (w : World) : Calls Try.prog 27 #[.pointer none, .int .u64 1, .int .i64 1] w (NilW w) := number_nil w 1 1 (.inl ⟨rfl, by omega⟩) (by omega)
theorem int_nil1 (w : World) : Calls Try.prog 26 #[.pointer none, .int .i64 1] w (NilW w) := by
  go_enter Try.func26, Try.ntmps26
  go_wp2_with fail
  refine (number_nil w 1 8 (.inr (.inr (.inr rfl))) (by omega)).mono ?_
  rintro e w' ⟨rfl, h⟩
  go_wp2
  go_ret
  exact ⟨rfl, h⟩
theorem flag_nil1 (w : World) : Calls Try.prog 28 #[.pointer none, .bool true] w (NilW w) := by
  go_enter Try.func28, Try.ntmps28
  go_wp2_with fail
  refine (number_nil1 w).mono ?_
  rintro e w' ⟨rfl, h⟩
  go_wp2
  go_ret
  exact ⟨rfl, h⟩
theorem count_nil1 (w : World) : Calls Try.prog 25 #[.pointer none, .int .i64 1] w (NilW w) := by
  go_enter Try.func25, Try.ntmps25
  go_wp2_with fail
  refine (number_nil w 1 2 (.inr (.inl ⟨rfl, by omega⟩)) (by omega)).mono ?_
  rintro e w' ⟨rfl, h⟩
  go_wp2
  go_ret
  exact ⟨rfl, h⟩
theorem blob_nil1 (w : World) (A : Option Addr) (n c : Nat) (hn : n ≤ 1) : Calls Try.prog 44 #[.pointer none, .slice A n c] w (NilW w) := by
  have hq : n = 0 ∨ n = 1 := by omega
  clear hn
  rcases hq with rfl | rfl
  · go_enter Try.func44, Try.ntmps44
    go_wp2_with fail
    refine (number_nil w 0 4 (.inr (.inr (.inl ⟨rfl, by omega⟩))) (by omega)).mono ?_
    rintro e w' ⟨rfl, h⟩
    go_wp2_with fail
    refine (bytes_nil _ _ _ _).mono ?_
    rintro e w' ⟨rfl, rfl⟩
    go_wp2
    go_ret
    exact ⟨rfl, h⟩
  · go_enter Try.func44, Try.ntmps44
    go_wp2_with fail
    refine (number_nil w 1 4 (.inr (.inr (.inl ⟨rfl, by omega⟩))) (by omega)).mono ?_
    rintro e w' ⟨rfl, h⟩
    go_wp2_with fail
    refine (bytes_nil _ _ _ _).mono ?_
    rintro e w' ⟨rfl, rfl⟩
    go_wp2
    go_ret
    exact ⟨rfl, h⟩
theorem text_nil1 (w : World) : Calls Try.prog 29 #[.pointer none, .string ⟨#[97]⟩] w (NilW w) := by
  obtain ⟨c, w1, hcv, _, hf, _⟩ := conv_bytes (P := Try.prog) w 9 26 5 ⟨#[97]⟩ Try.underlying9 Try.underlying26 Try.underlying5
  have hs : (⟨#[97]⟩ : ByteArray).size = 1 := rfl
  rw [hs] at hcv
  clear hs
  go_enter Try.func29, Try.ntmps29
  go_wp2_with fail
  refine (blob_nil1 _ _ _ _ (by omega)).mono ?_
  rintro e w' ⟨rfl, h⟩
  go_wp2
  go_ret
  exact ⟨rfl, hf.trans h (fun _ _ => id)⟩

theorem Fr.no {w w1 w2 : World} (h : Fr (fun _ => False) w w1) (k : Fr (fun _ => False) w1 w2) : Fr (fun _ => False) w w2 := h.trans k (fun _ _ => id)

/-- A reader that has nothing left: noughts. -/
theorem z_number {w : World} {g : Nat} {f m : Bool} (h : Rr w g [] f m) :
    Calls Try.prog 32 #[.pointer (some ⟨g, 0, none⟩), .int .i64 1] w fun e w' => e = .returned (.int .u64 0) ∧ ∃ f', Left w g [] f' m w' :=
  (rnumber_any h 1).mono fun _ _ ⟨he, hl⟩ => ⟨he, _, hl⟩
theorem z_int {w : World} {g : Nat} {f m : Bool} (h : Rr w g [] f m) :
    Calls Try.prog 31 #[.pointer (some ⟨g, 0, none⟩)] w fun e w' => e = .returned (.int .i64 0) ∧ ∃ f', Left w g [] f' m w' :=
  (rint_any h).mono fun _ _ ⟨he, hl⟩ => ⟨he.trans (by simp [tkNum, tkOk, wrap64]), _, hl⟩
theorem z_flag {w : World} {g : Nat} {f m : Bool} (h : Rr w g [] f m) :
    Calls Try.prog 33 #[.pointer (some ⟨g, 0, none⟩)] w fun e w' => e = .returned (.bool false) ∧ ∃ f', Left w g [] f' m w' :=
  (rflag_any h).mono fun _ _ ⟨he, hl⟩ => ⟨he, _, hl⟩
theorem z_count {w : World} {g : Nat} {f m : Bool} (h : Rr w g [] f m) :
    Calls Try.prog 30 #[.pointer (some ⟨g, 0, none⟩)] w fun e w' => e = .returned (.int .i64 0) ∧ ∃ f', Left w g [] f' m w' :=
  (rcount_any h).mono fun _ _ ⟨he, hl⟩ => ⟨he, _, hl⟩
theorem z_text {w : World} {g : Nat} {f m : Bool} (h : Rr w g [] f m) :
    Calls Try.prog 34 #[.pointer (some ⟨g, 0, none⟩)] w fun e w' => e = .returned (.string ⟨#[]⟩) ∧ ∃ f', Left w g [] f' m w' :=
  (rtext_any h).mono fun _ _ ⟨he, hl⟩ => ⟨he, _, hl⟩
theorem z_bytes {w : World} {g : Nat} {f m : Bool} (h : Rr w g [] f m) :
    Calls Try.prog 24 #[.pointer (some ⟨g, 0, none⟩), .int .i64 0] w fun e w' => ∃ A c, e = .returned (.slice A 0 c) ∧ ∃ f', Left w g [] f' m w' :=
  (rbytes_any h 0).mono fun _ _ ⟨v, he, hg, hl⟩ => by
    obtain ⟨A, c, rfl, _⟩ := own_slice hg
    exact ⟨A, c, he, _, hl⟩
theorem z_blob {w : World} {g : Nat} {f m : Bool} (h : Rr w g [] f m) :
    Calls Try.prog 46 #[.pointer (some ⟨g, 0, none⟩)] w fun e w' => ∃ A c, e = .returned (.slice A 0 c) ∧ ∃ f', Left w g [] f' m w' :=
  (rblob_any h).mono fun _ _ ⟨v, he, hg, hl⟩ => by
    obtain ⟨A, c, rfl, _⟩ := own_slice hg
    exact ⟨A, c, he, _, hl⟩

theorem endW_new {w : World} {g : Nat} {v : Value} (h : WrS w g g v (some [])) :
    Calls Try.prog 17 #[.pointer (some ⟨g, 0, none⟩)] w fun e w' => ∃ A c, e = .returned (.tuple #[.slice A 0 c, .int .i64 0]) ∧ Fr (fun _ => False) w w' :=
  (end_any h (by simp)).mono fun _ _ ⟨x, he, hm⟩ => by
    obtain ⟨A, c, rfl, _⟩ := own_slice hm.1
    exact ⟨A, c, he, hm.2⟩

set_option maxHeartbeats 4000000 in
set_option maxRecDepth 100000 in
theorem law_WireNil (w : World) : Calls Try.prog 10 #[] w fun e w' => e = .returned (.bool true) ∧ Below w.heap.size w w' := by
  go_enter Try.func10, Try.ntmps10
  go_wp2_with fail
  refine (number_nil1 _).mono ?_
  rintro e w1 ⟨rfl, f1⟩
  go_wp2_with fail
  refine (int_nil1 _).mono ?_
  rintro e w2 ⟨rfl, f2⟩
  replace f2 := f1.no f2
  clear f1
  go_wp2_with fail
  refine (flag_nil1 _).mono ?_
  rintro e w3 ⟨rfl, f3⟩
  replace f3 := f2.no f3
  clear f2
  go_wp2_with fail
  refine (bytes_nil _ _ _ _).mono ?_
  rintro e w4 ⟨rfl, rfl⟩
  replace f3 := f3.alloc (.cells #[Value.int IntKind.u8 1] 5)
  generalize w3.alloc (.cells #[Value.int IntKind.u8 1] 5) = w4 at *
  go_wp2_with fail
  refine (blob_nil1 _ _ _ _ (by omega)).mono ?_
  rintro e w5 ⟨rfl, f5⟩
  replace f5 := f3.no f5
  clear f3
  go_wp2_with fail
  refine (text_nil1 _).mono ?_
  rintro e w6 ⟨rfl, f6⟩
  replace f6 := f5.no f6
  clear f5
  go_wp2_with fail
  refine (count_nil1 _).mono ?_
  rintro e w7 ⟨rfl, f7⟩
  replace f7 := f6.no f7
  clear f6
  go_wp2_with fail
  refine (len_nil _).mono ?_
  rintro e w8 ⟨rfl, rfl⟩
  go_wp2_with fail
  refine (end_nil _).mono ?_
  rintro e w8 ⟨rfl, rfl⟩
  have hz := WrS.new w7
  replace f7 := f7.alloc (.cells #[.slice none 0 0, .bool false] 28)
  go_wp2_with fail
  generalize w7.alloc (.cells #[.slice none 0 0, .bool false] 28) = w8 at *
  generalize w7.heap.size = g8 at *
  refine (endW_new hz).mono ?_
  rintro e w9 ⟨A9, c9, rfl, f9⟩
  replace f9 := f7.no f9
  clear f7 hz
  go_wp2_with fail
  have hs9 := f9.size
  have hr0 : Rr (w9.alloc (.cells #[.slice none 0 0, .bool false, .bool false] 80)) w9.heap.size [] false false :=
    ⟨none, 0, 0, Blk.new _ _ _, Rd.nil _ _, Nat.le_refl _, by omega, fun _ => rfl, fun _ e => by cases e⟩
  have hr1 := hr0.keep (F := fun _ => False) ((Fr.refl _ _).alloc (.cells #[.pointer none, .pointer (some ⟨w9.heap.size, 0, none⟩)] 41)) (fun _ q => q.elim)
  have hb1 : Blk ((w9.alloc (.cells #[.slice none 0 0, .bool false, .bool false] 80)).alloc (.cells #[.pointer none, .pointer (some ⟨w9.heap.size, 0, none⟩)] 41)) (w9.heap.size + 1) 41 #[.pointer none, .pointer (some ⟨w9.heap.size, 0, none⟩)] := by
    have := Blk.new (w9.alloc (.cells #[.slice none 0 0, .bool false, .bool false] 80)) 41 #[.pointer none, .pointer (some ⟨w9.heap.size, 0, none⟩)]
    simpa using this
  replace f9 := (f9.alloc (.cells #[.slice none 0 0, .bool false, .bool false] 80)).alloc (.cells #[.pointer none, .pointer (some ⟨w9.heap.size, 0, none⟩)] 41)
  clear hr0
  generalize (w9.alloc (.cells #[.slice none 0 0, .bool false, .bool false] 80)).alloc (.cells #[.pointer none, .pointer (some ⟨w9.heap.size, 0, none⟩)] 41) = wA at *
  generalize w9.heap.size = g at *
  have hne : ¬ (g + 1 = g) := by omega
  go_loopw [9] (fun i wr => ∃ k : Nat, k ≤ 2 ∧ i = .int .i64 k ∧ Blk wr (g + 1) 41 #[.pointer none, .pointer (some ⟨g, 0, none⟩)] ∧ (∃ f', Rr wr g [] f' false) ∧ Fr (fun _ => False) w wr) (fun i _ => 2 - (intOf i).toNat)
  case atStart => exact ⟨0, by omega, rfl, hb1, ⟨_, hr1⟩, f9⟩
  case round =>
    obtain ⟨k, hk, rfl, hb, ⟨f0, hr⟩, hf⟩ := hrel
    clear hb1 hr1 f9
    have hc0 := hb.cell 0
    have hc1 := hb.cell 1
    simp at hc0 hc1
    have hk' : k = 0 ∨ k = 1 ∨ k = 2 := by omega
    clear hk
    rcases hk' with rfl | rfl | rfl
    · go_wp2_with (first
        | (go_at_call 32; refine (rnumber_nil _ _).mono ?_; rintro e w' ⟨rfl, rfl⟩)
        | (go_at_call 31; refine (rint_nil _).mono ?_; rintro e w' ⟨rfl, rfl⟩)
        | (go_at_call 33; refine (rflag_nil _).mono ?_; rintro e w' ⟨rfl, rfl⟩)
        | (go_at_call 24; refine (rbytes_nil _ _).mono ?_; rintro e w' ⟨rfl, rfl⟩)
        | (go_at_call 46; refine (rblob_nil _).mono ?_; rintro e w' ⟨rfl, rfl⟩)
        | (go_at_call 34; refine (rtext_nil _).mono ?_; rintro e w' ⟨rfl, rfl⟩)
        | (go_at_call 30; refine (rcount_nil _).mono ?_; rintro e w' ⟨rfl, rfl⟩)
        | (go_at_call 21; refine (left_nil _).mono ?_; rintro e w' ⟨rfl, rfl⟩)
        | (go_at_call 23; refine (rfail_nil _).mono ?_; rintro e w' ⟨rfl, rfl⟩)
        | (go_at_call 22; refine (rend_nil _).mono ?_; rintro e w' ⟨rfl, rfl⟩))
      exact ⟨⟨1, by omega, rfl, hb, ⟨_, hr⟩, hf⟩, by simp [intOf]⟩
    · clear hc0
      go_wp2_with fail
      refine (z_number hr).mono ?_
      rintro e w' ⟨rfl, f', hl⟩
      clear hr
      have hr := hl.1
      replace hb := hb.keep hl.2 hne
      replace hf := hf.trans hl.2 (fun i hi e => by omega)
      clear hl
      go_wp2_with fail
      refine (z_int hr).mono ?_
      rintro e w' ⟨rfl, f', hl⟩
      clear hr
      have hr := hl.1
      replace hb := hb.keep hl.2 hne
      replace hf := hf.trans hl.2 (fun i hi e => by omega)
      clear hl
      go_wp2_with fail
      refine (z_flag hr).mono ?_
      rintro e w' ⟨rfl, f', hl⟩
      clear hr
      have hr := hl.1
      replace hb := hb.keep hl.2 hne
      replace hf := hf.trans hl.2 (fun i hi e => by omega)
      clear hl
      go_wp2_with fail
      refine (z_bytes hr).mono ?_
      rintro e w' ⟨A', c', rfl, f', hl⟩
      clear hr
      have hr := hl.1
      replace hb := hb.keep hl.2 hne
      replace hf := hf.trans hl.2 (fun i hi e => by omega)
      clear hl
      go_wp2_with fail
      refine (z_blob hr).mono ?_
      rintro e w' ⟨A'', c'', rfl, f', hl⟩
      clear hr
      have hr := hl.1
      replace hb := hb.keep hl.2 hne
      replace hf := hf.trans hl.2 (fun i hi e => by omega)
      clear hl
      go_wp2_with fail
      refine (z_text hr).mono ?_
      rintro e w' ⟨rfl, f', hl⟩
      clear hr
      have hr := hl.1
      replace hb := hb.keep hl.2 hne
      replace hf := hf.trans hl.2 (fun i hi e => by omega)
      clear hl
      go_wp2_with fail
      refine (z_count hr).mono ?_
      rintro e w' ⟨rfl, f', hl⟩
      clear hr
      have hr := hl.1
      replace hb := hb.keep hl.2 hne
      replace hf := hf.trans hl.2 (fun i hi e => by omega)
      clear hl
      go_wp2_with fail
      refine (left_any hr).mono ?_
      rintro e w' ⟨rfl, rfl⟩
      go_wp2_with fail
      refine (rfail_left hr).mono ?_
      rintro e w' ⟨rfl, hl⟩
      clear hr
      have hr := hl.1
      replace hb := hb.keep hl.2 hne
      replace hf := hf.trans hl.2 (fun i hi e => by omega)
      clear hl
      go_wp2_with fail
      refine (rend_zero hr).mono ?_
      rintro e w' ⟨rfl, rfl⟩
      go_wp2_with fail
      exact ⟨⟨2, by omega, rfl, hb, ⟨_, hr⟩, hf⟩, by simp [intOf]⟩
    · clear hc0 hc1
      go_wp2_with fail
      refine (read_any (Rd.nil wr none) (fun _ => rfl) (by omega)).mono ?_
      rintro e w' ⟨g', rfl, hr', hf', _⟩
      go_wp2_with fail
      refine (rend_any hr').mono ?_
      rintro e w'' ⟨rfl, rfl⟩
      have he : rendOf [] false = 0 := rfl
      rw [he]
      go_wp2_with fail
      refine (known_any _).mono ?_
      rintro e w'' ⟨rfl, hf''⟩
      go_wp2
      go_ret
      exact ⟨rfl, ((hf.no hf').no hf'').below (Nat.le_refl _) (fun _ _ => id)⟩
end Go.Proofs.Ythmjfbefekicdaa
