/- What a reader of package wire takes: Int, Flag, Count, Bytes, Blob, Text. -/
import Derived.Test.YtmjkcjllpnpgpaaRnum
namespace Go.Proofs.Ytmjkcjllpnpgpaa
open Go.RowKit

theorem rint_nil (w : World) : Calls Try.prog 29 #[.pointer none] w fun e w' => e = .returned (.int .i64 0) ∧ w = w' := by
  go_enter Try.func29, Try.ntmps29
  go_wp2_with fail
  refine (rnumber_nil _ _).mono ?_
  rintro e w' ⟨rfl, rfl⟩
  go_wp2
  go_ret
  exact ⟨rfl, rfl⟩
theorem rint_any {w : World} {g : Nat} {l : List UInt8} {f m : Bool} (h : Rr w g l f m) :
    Calls Try.prog 29 #[.pointer (some ⟨g, 0, none⟩)] w fun e w' => e = .returned (.int .i64 (wrap64 ((tkNum l 8 : Nat) : Int))) ∧ Left w g (tkRest l 8) (f || !tkOk l 8) m w' := by
  have hc := rnumber_any h 8
  generalize tkNum l 8 = n at *
  generalize tkRest l 8 = L at *
  generalize (f || !tkOk l 8) = F at *
  have HC := Lib.hid hc
  clear hc
  go_enter Try.func29, Try.ntmps29
  go_wp2_with fail
  refine HC.out.mono ?_
  rintro e w' ⟨rfl, h1⟩
  go_wp2
  go_ret
  exact ⟨rfl, h1⟩
theorem rcount_nil (w : World) : Calls Try.prog 28 #[.pointer none] w fun e w' => e = .returned (.int .i64 0) ∧ w = w' := by
  go_enter Try.func28, Try.ntmps28
  go_wp2_with fail
  refine (rnumber_nil _ _).mono ?_
  rintro e w' ⟨rfl, rfl⟩
  go_wp2
  go_ret
  exact ⟨rfl, rfl⟩

theorem tkNum_2 (l : List UInt8) : tkNum l 2 < 65536 := by
  unfold tkNum
  split
  · have h := numOf_lt (l.take (2 : Int).toNat)
    have hl : (l.take (2 : Int).toNat).length ≤ 2 := by rw [List.length_take]; omega
    have := Nat.pow_le_pow_right (show 0 < 256 by omega) hl
    omega
  · omega
theorem tkNum_1 (l : List UInt8) : tkNum l 1 < 256 := by
  unfold tkNum
  split
  · have h := numOf_lt (l.take (1 : Int).toNat)
    have hl : (l.take (1 : Int).toNat).length ≤ 1 := by rw [List.length_take]; omega
    have := Nat.pow_le_pow_right (show 0 < 256 by omega) hl
    omega
  · omega
theorem tkNum_4 (l : List UInt8) : tkNum l 4 < 4294967296 := by
  unfold tkNum
  split
  · have h := numOf_lt (l.take (4 : Int).toNat)
    have hl : (l.take (4 : Int).toNat).length ≤ 4 := by rw [List.length_take]; omega
    have := Nat.pow_le_pow_right (show 0 < 256 by omega) hl
    omega
  · omega

theorem rcount_any {w : World} {g : Nat} {l : List UInt8} {f m : Bool} (h : Rr w g l f m) :
    Calls Try.prog 28 #[.pointer (some ⟨g, 0, none⟩)] w fun e w' => e = .returned (.int .i64 (tkNum l 2 : Nat)) ∧ Left w g (tkRest l 2) (f || !tkOk l 2) m w' := by
  have hn := tkNum_2 l
  have hc := rnumber_any h 2
  generalize tkNum l 2 = n at *
  generalize tkRest l 2 = L at *
  generalize (f || !tkOk l 2) = F at *
  have HC := Lib.hid hc
  clear hc
  go_enter Try.func28, Try.ntmps28
  go_wp2_with fail
  refine HC.out.mono ?_
  rintro e w' ⟨rfl, h1⟩
  go_wp2
  go_ret
  exact ⟨rfl, h1⟩

theorem rflag_nil (w : World) : Calls Try.prog 31 #[.pointer none] w fun e w' => e = .returned (.bool false) ∧ w = w' := by
  go_enter Try.func31, Try.ntmps31
  go_wp2_with fail
  refine (rnumber_nil _ _).mono ?_
  rintro e w' ⟨rfl, rfl⟩
  go_wp2
  go_ret
  exact ⟨rfl, rfl⟩

/-- Flag: has it gone well? What is left? -/
def flOk (l : List UInt8) : Bool := tkOk l 1 && decide (tkNum l 1 ≤ 1)
def flRest (l : List UInt8) : List UInt8 := if flOk l then l.drop 1 else []
theorem rflag_any {w : World} {g : Nat} {l : List UInt8} {f m : Bool} (h : Rr w g l f m) :
    Calls Try.prog 31 #[.pointer (some ⟨g, 0, none⟩)] w fun e w' => e = .returned (.bool (decide (tkNum l 1 = 1))) ∧ Left w g (flRest l) (f || !flOk l) m w' := by
  have e0 : tkNum l 1 ≤ 1 → tkRest l 1 = flRest l ∧ (f || !tkOk l 1) = (f || !flOk l) := by
    intro h
    have e : flOk l = tkOk l 1 := by simp [flOk, h]
    unfold flRest tkRest
    rw [e]
    exact ⟨rfl, rfl⟩
  have e1 : 1 < tkNum l 1 → flRest l = [] ∧ (f || !flOk l) = true := by
    intro h
    have e : flOk l = false := by simp [flOk]; omega
    simp [e, flRest]
  have hc := rnumber_any h 1
  generalize tkNum l 1 = n at *
  generalize tkRest l 1 = L at *
  generalize (f || !tkOk l 1) = F at *
  generalize flRest l = L' at *
  generalize (f || !flOk l) = F' at *
  have HC := Lib.hid hc
  clear hc
  have hq : n = 0 ∨ n = 1 ∨ 1 < n := by omega
  rcases hq with rfl | rfl | hq
  · obtain ⟨rfl, rfl⟩ := e0 (by omega)
    clear e1
    go_enter Try.func31, Try.ntmps31
    go_wp2_with fail
    refine HC.out.mono ?_
    rintro e w' ⟨rfl, h1⟩
    go_wp2
    go_ret
    exact ⟨rfl, h1⟩
  · obtain ⟨rfl, rfl⟩ := e0 (by omega)
    clear e1
    go_enter Try.func31, Try.ntmps31
    go_wp2_with fail
    refine HC.out.mono ?_
    rintro e w' ⟨rfl, h1⟩
    go_wp2
    go_ret
    exact ⟨rfl, h1⟩
  · obtain ⟨rfl, rfl⟩ := e1 hq
    clear e0
    have hd : ((n : Int) == 1) = false := by rw [beq_eq_false_iff_ne]; omega
    have hne : decide (n = 1) = false := by rw [decide_eq_false_iff_not]; omega
    rw [hne]
    clear hne
    go_enter Try.func31, Try.ntmps31
    go_wp2_with fail
    refine HC.out.mono ?_
    rintro e w' ⟨rfl, h1⟩
    have H1 := Lib.hid h1
    clear h1
    go_wp2_with fail
    refine (rfail_left H1.out.1).mono ?_
    rintro e w2 ⟨rfl, h2⟩
    go_wp2
    go_ret
    exact ⟨rfl, H1.out.then_ h2⟩

theorem rbytes_nil (w : World) (n : Int) : Calls Try.prog 22 #[.pointer none, .int .i64 n] w fun e w' => e = .returned (.slice none 0 0) ∧ w = w' := by
  by_cases hn : n < 0
  · go_enter Try.func22, Try.ntmps22
    go_wp2_with fail
    refine (rfail_nil _).mono ?_
    rintro e w' ⟨rfl, rfl⟩
    go_wp2
    go_ret
    exact ⟨rfl, rfl⟩
  · have hd : decide (n < 0) = false := by simpa using hn
    go_enter Try.func22, Try.ntmps22
    go_wp2_with fail
    refine (has_nil _ _).mono ?_
    rintro e w' ⟨rfl, rfl⟩
    go_wp2_with fail
    refine (rfail_nil _).mono ?_
    rintro e w' ⟨rfl, rfl⟩
    go_wp2
    go_ret
    exact ⟨rfl, rfl⟩

/-- Bytes: what is answered, what is left. -/
def byOk (l : List UInt8) (n : Int) : Bool := decide (0 ≤ n ∧ n ≤ l.length)
def byGot (l : List UInt8) (n : Int) : List UInt8 := if byOk l n then l.take n.toNat else []
def byRest (l : List UInt8) (n : Int) : List UInt8 := if byOk l n then l.drop n.toNat else []
/-- A slice that was just made holds l; else only the reader's block turned. -/
def Got (w : World) (g : Nat) (got l : List UInt8) (f m : Bool) (v : Value) (w' : World) : Prop :=
  w'.ownsRow w.heap.size 5 1 v got.length (cellsB got) ∧ Rr w' g l f m ∧ Fr (fun k => k = g) w w'

theorem rbytes_fail {w : World} {g : Nat} {l : List UInt8} {f m : Bool} (h : Rr w g l f m) (n : Int) (ht : byOk l n = false) :
    Calls Try.prog 22 #[.pointer (some ⟨g, 0, none⟩), .int .i64 n] w fun e w' => ∃ v, e = .returned v ∧ Got w g [] [] true m v w' := by
  have hq : n < 0 ∨ (l.length : Int) < n := by simp [byOk] at ht; omega
  clear ht
  by_cases hn : n < 0
  · clear hq
    go_enter Try.func22, Try.ntmps22
    go_wp2_with fail
    refine (rfail_left h).mono ?_
    rintro e w' ⟨rfl, h1⟩
    go_wp2
    go_ret
    exact ⟨_, rfl, World.ownsRow_nil _ _ _ _, h1⟩
  · have hl : (l.length : Int) < n := by omega
    clear hq
    have hd : decide (n < 0) = false := by simpa using hn
    go_enter Try.func22, Try.ntmps22
    go_wp2_with fail
    refine (has_no h _ hl).mono ?_
    rintro e w' ⟨rfl, rfl⟩
    go_wp2_with fail
    refine (rfail_left h).mono ?_
    rintro e w' ⟨rfl, h1⟩
    go_wp2
    go_ret
    exact ⟨_, rfl, World.ownsRow_nil _ _ _ _, h1⟩

set_option maxHeartbeats 400000 in
theorem rbytes_ok {w : World} {g : Nat} {l : List UInt8} {f m : Bool} (h : Rr w g l f m) (n : Nat) (hn : n ≤ l.length) :
    Calls Try.prog 22 #[.pointer (some ⟨g, 0, none⟩), .int .i64 n] w fun e w' => ∃ v, e = .returned v ∧ Got w g (l.take n) (l.drop n) f m v w' := by
  have h' := h
  obtain ⟨A, k, c, hb, hr, hnc, hc, hA, hne⟩ := h'
  obtain rfl := hr.len
  have h0 := hb.cell 0
  simp at h0
  obtain ⟨hs, hrt⟩ := slice_to (P := Try.prog) undU8 szU8 hr hnc n hn
  obtain ⟨A', hs', hrf, hA', hB⟩ := slice_from (P := Try.prog) undU8 szU8 hr hnc hA n hn
  have H := Lib.hid (And.intro hb (And.intro hr (And.intro hA (And.intro hne (And.intro hrt (And.intro hrf (And.intro hA' hB)))))))
  have hd : decide ((n : Int) < 0) = false := by simp
  clear hb hr hA hne hrt hrf hA' hB
  have HN := Lib.hid (And.intro hn (And.intro hc hnc))
  clear hn hc hnc
  go_enter Try.func22, Try.ntmps22
  go_wp2_with fail
  refine (has_yes h _ (by have := HN.out.1; omega)).mono ?_
  rintro e w' ⟨rfl, rfl⟩
  go_wp2_with fail
  refine (clone_any H.out.2.2.2.2.1 H.out.2.2.1 (by have := HN.out; omega)).mono ?_
  rintro e w1 ⟨v, rfl, hm⟩
  have hf := hm.2
  have hb1 := H.out.1.keep hf id
  have h01 := hb1.cell 0
  have f01 := hb1.frozen 0
  simp at h01
  have Hm := Lib.hid (And.intro hm (And.intro hf hb1))
  clear hm hf hb1
  go_wp2
  go_ret
  obtain ⟨hb, hr, hA, hne, hrt, hrf, hA', hB⟩ := H.out
  obtain ⟨hm, hf, hb1⟩ := Hm.out
  have hf2 : Fr (fun k => k = g) w1 (w1.setCell ⟨g, 0, none⟩ (.slice A' (l.length - n) (c - n))) := (Fr.refl (fun k => k = g) w1).setCell (p := ⟨g, 0, none⟩) (.inl rfl) _
  have hf3 : Fr (fun k => k = g) w (w1.setCell ⟨g, 0, none⟩ (.slice A' (l.length - n) (c - n))) := (hf.mono (fun _ _ q => q.elim)).trans hf2 (fun _ _ => id)
  have hg : ∀ ad', A' = some ad' → ad'.block ≠ g ∧ ad'.block < w.heap.size := by
    intro ad' e'
    obtain ⟨ad2, e2, e3⟩ := hB ad' e'
    rw [e3]
    exact hne ad2 e2
  have hlt := hb.lt
  refine ⟨v, rfl, own_keep hm.1 hf2 (fun k hk e => ?_), ⟨A', l.length - n, c - n, hb1.set_ 0 _, hrf.keep hf3 (fun ad' e' => (hg ad' e').1), ?_, ?_, hA', fun ad' e' => ⟨(hg ad' e').1, Nat.lt_of_lt_of_le (hg ad' e').2 hf3.size⟩⟩, hf3⟩
  · have := (hm.1.lt k hk).1
    omega
  · have := HN.out
    omega
  · have := HN.out
    omega

theorem rbytes_any {w : World} {g : Nat} {l : List UInt8} {f m : Bool} (h : Rr w g l f m) (n : Int) :
    Calls Try.prog 22 #[.pointer (some ⟨g, 0, none⟩), .int .i64 n] w fun e w' => ∃ v, e = .returned v ∧ Got w g (byGot l n) (byRest l n) (f || !byOk l n) m v w' := by
  cases ht : byOk l n with
  | false =>
    have e1 : byGot l n = [] := by simp [byGot, ht]
    have e2 : byRest l n = [] := by simp [byRest, ht]
    rw [e1, e2]
    simpa using rbytes_fail h n ht
  | true =>
    have e1 : byGot l n = l.take n.toNat := by simp [byGot, ht]
    have e2 : byRest l n = l.drop n.toNat := by simp [byRest, ht]
    rw [e1, e2]
    obtain ⟨h0, h1⟩ : 0 ≤ n ∧ n ≤ l.length := by simpa [byOk] using ht
    obtain ⟨k, rfl⟩ := Int.eq_ofNat_of_zero_le h0
    simpa using rbytes_ok h k (by omega)

theorem rblob_nil (w : World) : Calls Try.prog 47 #[.pointer none] w fun e w' => e = .returned (.slice none 0 0) ∧ w = w' := by
  go_enter Try.func47, Try.ntmps47
  go_wp2_with fail
  refine (rnumber_nil _ _).mono ?_
  rintro e w' ⟨rfl, rfl⟩
  go_wp2_with fail
  refine (rbytes_nil _ _).mono ?_
  rintro e w' ⟨rfl, rfl⟩
  go_wp2
  go_ret
  exact ⟨rfl, rfl⟩

/-- Blob: has it gone well? What is answered, what is left? -/
def blOk (l : List UInt8) : Bool := tkOk l 4 && decide (tkNum l 4 ≤ 16777216) && byOk (tkRest l 4) (tkNum l 4 : Nat)
def blGot (l : List UInt8) : List UInt8 := if blOk l then (l.drop 4).take (tkNum l 4) else []
def blRest (l : List UInt8) : List UInt8 := if blOk l then (l.drop 4).drop (tkNum l 4) else []

theorem blob_eqs (l : List UInt8) (h : tkNum l 4 ≤ 16777216) (f : Bool) :
    byGot (tkRest l 4) (tkNum l 4 : Nat) = blGot l ∧ byRest (tkRest l 4) (tkNum l 4 : Nat) = blRest l ∧ ((f || !tkOk l 4) || !byOk (tkRest l 4) (tkNum l 4 : Nat)) = (f || !blOk l) := by
  cases ht : tkOk l 4 with
  | false =>
    have e1 : tkNum l 4 = 0 := by simp [tkNum, ht]
    have e2 : tkRest l 4 = [] := by simp [tkRest, ht]
    have e3 : blOk l = false := by simp [blOk, ht]
    rw [e1, e2]
    simp [byGot, byRest, byOk, blGot, blRest, e3]
  | true =>
    have e2 : tkRest l 4 = l.drop 4 := by simp [tkRest, ht]
    have e3 : blOk l = byOk (tkRest l 4) (tkNum l 4 : Nat) := by simp [blOk, ht, h]
    refine ⟨?_, ?_, ?_⟩
    · unfold byGot blGot
      rw [e3, e2, Int.toNat_natCast]
    · unfold byRest blRest
      rw [e3, e2, Int.toNat_natCast]
    · rw [e3]
      simp

theorem Got.then_ {w w1 w2 : World} {g : Nat} {l l' got : List UInt8} {f m f' m' : Bool} {v : Value} (h : Left w g l f m w1) (k : Got w1 g got l' f' m' v w2) : w2.ownsRow w.heap.size 5 1 v got.length (cellsB got) ∧ Rr w2 g l' f' m' ∧ Fr (fun k => k = g) w w2 := by
  refine ⟨?_, k.2.1, h.2.trans k.2.2 (fun _ _ => id)⟩
  refine ⟨k.1.1, k.1.2.imp id ?_⟩
  rintro ⟨g', cap, cur, e, hb, rest⟩
  exact ⟨g', cap, cur, e, Nat.le_trans h.2.size hb, rest⟩

theorem rblob_any {w : World} {g : Nat} {l : List UInt8} {f m : Bool} (h : Rr w g l f m) :
    Calls Try.prog 47 #[.pointer (some ⟨g, 0, none⟩)] w fun e w' => ∃ v, e = .returned v ∧ Got w g (blGot l) (blRest l) (f || !blOk l) m v w' := by
  have hc := rnumber_any h 4
  have e0 := fun h => blob_eqs l h f
  have e1 : 16777216 < tkNum l 4 → blGot l = [] ∧ blRest l = [] ∧ (f || !blOk l) = true := by
    intro h
    have e : blOk l = false := by simp [blOk]; omega
    simp [blGot, blRest, e]
  have hlt := tkNum_4 l
  generalize tkNum l 4 = n at *
  generalize tkRest l 4 = L at *
  generalize (f || !tkOk l 4) = F at *
  generalize blGot l = L1 at *
  generalize blRest l = L2 at *
  generalize (f || !blOk l) = F' at *
  have HC := Lib.hid hc
  clear hc
  by_cases hn : n ≤ 16777216
  · obtain ⟨rfl, rfl, rfl⟩ := e0 hn
    clear e1 hlt
    go_enter Try.func47, Try.ntmps47
    go_wp2_with fail
    refine HC.out.mono ?_
    rintro e w1 ⟨rfl, h1⟩
    have H1 := Lib.hid h1
    clear h1
    go_wp2_with fail
    refine (rbytes_any H1.out.1 _).mono ?_
    rintro e w2 ⟨v, rfl, h2⟩
    have H2 := Lib.hid h2
    clear h2
    go_wp2
    go_ret
    exact ⟨v, rfl, Got.then_ H1.out H2.out⟩
  · obtain ⟨rfl, rfl, rfl⟩ := e1 (by omega)
    clear e0
    go_enter Try.func47, Try.ntmps47
    go_wp2_with fail
    refine HC.out.mono ?_
    rintro e w1 ⟨rfl, h1⟩
    have H1 := Lib.hid h1
    clear h1
    go_wp2_with fail
    refine (rfail_left H1.out.1).mono ?_
    rintro e w2 ⟨rfl, h2⟩
    have H2 := Lib.hid h2
    clear h2
    go_wp2
    go_ret
    exact ⟨_, rfl, World.ownsRow_nil _ _ _ _, H1.out.then_ H2.out⟩

theorem rtext_nil (w : World) : Calls Try.prog 32 #[.pointer none] w fun e w' => e = .returned (.string ⟨#[]⟩) ∧ w = w' := by
  have hcv : ∀ w, (convert 26 9 (.slice none 0 0)).run Try.prog w = .ok (.string ⟨#[]⟩) w := fun w => conv_string (P := Try.prog) 26 9 5 (Rd.nil w none) Try.underlying26 Try.underlying5 Try.underlying9
  go_enter Try.func32, Try.ntmps32
  go_wp2_with fail
  refine (rblob_nil _).mono ?_
  rintro e w' ⟨rfl, rfl⟩
  go_wp2
  go_ret
  exact ⟨rfl, rfl⟩

theorem rtext_any {w : World} {g : Nat} {l : List UInt8} {f m : Bool} (h : Rr w g l f m) :
    Calls Try.prog 32 #[.pointer (some ⟨g, 0, none⟩)] w fun e w' => e = .returned (.string ⟨(blGot l).toArray⟩) ∧ Left w g (blRest l) (f || !blOk l) m w' := by
  have hc := rblob_any h
  generalize blGot l = L1 at *
  generalize blRest l = L2 at *
  generalize (f || !blOk l) = F' at *
  have HC := Lib.hid hc
  clear hc
  go_enter Try.func32, Try.ntmps32
  go_wp2_with fail
  refine HC.out.mono ?_
  rintro e w1 ⟨v, rfl, h1⟩
  obtain ⟨A, c, rfl, _, _, _, hr⟩ := own_rd h1.1
  have hcv := conv_string (P := Try.prog) 26 9 5 (c := c) hr Try.underlying26 Try.underlying5 Try.underlying9
  have H1 := Lib.hid h1
  clear h1 hr
  go_wp2
  go_ret
  exact ⟨rfl, H1.out.2⟩
end Go.Proofs.Ytmjkcjllpnpgpaa
