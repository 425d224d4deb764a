/- wire.worths: what the runes of a text are worth, as digits of a base. -/
import Derived.Test.YthmjfbefekicdaaTxt
import Derived.Lib.OthersKept
import Derived.Laws.MakeOwn
namespace Go.Proofs.Ythmjfbefekicdaa
open Go.RowKit

/-- Is a byte a digit of a base (10 or 16)? What is it worth? -/
def isD (b : Nat) (c : UInt8) : Bool := isDig c || decide (97 ≤ c.toNat ∧ c.toNat < 87 + b)
def dv (c : UInt8) : UInt8 := if c.toNat ≤ 57 then UInt8.ofNat (c.toNat - 48) else UInt8.ofNat (c.toNat - 87)
/-- The digits that a text begins with. -/
def wl (b : Nat) (l : List UInt8) : List UInt8 := (l.takeWhile (isD b)).map dv

theorem wl_stop (b : Nat) : ∀ (l : List UInt8) (k : Nat), (l.take k).all (isD b) = true → (∀ c, l[k]? = some c → isD b c = false) → wl b l = (l.take k).map dv := by
  intro l
  induction l with
  | nil => intro k _ _; simp [wl]
  | cons x l ih =>
    intro k h1 h2
    cases k with
    | zero =>
      have := h2 x rfl
      simp [wl, this]
    | succ k =>
      simp only [List.take_succ_cons, List.all_cons, Bool.and_eq_true] at h1
      have := ih k h1.2 (fun c hc => h2 c (by simpa using hc))
      simp only [wl, List.takeWhile_cons, h1.1, if_true, List.take_succ_cons, List.map_cons] at this ⊢
      rw [this]

/-- What worths gives. -/
def Worths (w : World) (b : Nat) (l : List UInt8) (e : Ending) (w' : World) : Prop :=
  ∃ v, e = .returned (.tuple #[v, .bool (((wl b l).length : Int) == (l.length : Int))]) ∧ Makes w (wl b l) v w'

theorem Fr.iterAt {F : Nat → Prop} {a b : World} (h : Fr F a b) {k : Nat} (hk : F k ∨ a.heap.size ≤ k) (s : ByteArray) (pos : Nat) : Fr F a (b.iterAt k s pos) :=
  ⟨h.os, h.tape, h.output, by rw [Lib.iterAt_size]; exact h.size, fun i hi hn => (Lib.iterAt_other b k i s pos (by
    rintro rfl
    rcases hk with hk | hk
    · exact hn hk
    · omega)).trans (h.block i hi hn)⟩

/-- Where the loop stands: k runes were digits. -/
def WorAt (w : World) (b : Nat) (s : ByteArray) (v : Value) (k : Nat) (wr : World) : Prop :=
  k ≤ s.size ∧ (s.data.toList.take k).all (isD b) = true ∧ wr.ownsRow w.heap.size 5 1 v ((s.data.toList.take k).map dv).length (cellsB ((s.data.toList.take k).map dv)) ∧
    wr.heap[w.heap.size + 1]? = some (.stringIter s k) ∧ Fr (fun _ => False) w wr

theorem WorAt.step {w wr w2 : World} {b k : Nat} {s : ByteArray} {v v2 : Value} (h : WorAt w b s v k wr) (hk : k < s.size) (hd : isD b s[k] = true)
    (ho : w2.ownsRow w.heap.size 5 1 v2 ((s.data.toList.take k).map dv ++ [dv s[k]]).length (cellsB ((s.data.toList.take k).map dv ++ [dv s[k]])))
    (hi : w2.heap[w.heap.size + 1]? = some (.stringIter s (k + 1))) (hf : Fr (fun _ => False) w w2) : WorAt w b s v2 (k + 1) w2 := by
  have hts := take_snoc s k hk
  refine ⟨hk, ?_, ?_, hi, hf⟩
  · rw [hts, List.all_append, h.2.1]
    simp [hd]
  · rw [hts, List.map_append]
    exact ho
theorem WorAt.done {w wr : World} {b k : Nat} {s : ByteArray} {v : Value} (h : WorAt w b s v k wr) (hs : ∀ hk : k < s.size, isD b s[k] = false) :
    (wl b s.data.toList).length = k ∧ Makes w (wl b s.data.toList) v wr := by
  have e := wl_stop b s.data.toList k h.2.1 (fun c hc => by
    by_cases hk : k < s.size
    · rw [get_lst s k hk] at hc
      injection hc with hc
      rw [← hc]
      exact hs hk
    · rw [List.getElem?_eq_none (by rw [Array.length_toList]; exact Nat.le_of_not_lt hk)] at hc
      cases hc)
  have hl : (s.data.toList.take k).length = k := by rw [List.length_take, Array.length_toList]; exact Nat.min_eq_left h.1
  refine ⟨by rw [e, List.length_map, hl], ?_⟩
  rw [e]
  exact ⟨h.2.2.1, h.2.2.2.2⟩

theorem own_off {w wr : World} {b k : Nat} {s : ByteArray} {v : Value} (h : WorAt w b s v k wr) : ∀ i, v.ownBlock = some i → ¬ (i = w.heap.size + 1) := by
  rintro i hi rfl
  rcases h.2.2.1.2 with ⟨rfl, _⟩ | ⟨g, cap, cur, rfl, _, hg, _⟩
  · cases hi
  · simp only [Value.ownBlock, Option.some.injEq] at hi
    subst hi
    rw [h.2.2.2.1] at hg
    cases hg
theorem worB {w wr : World} {b k : Nat} {s : ByteArray} {v : Value} (h : WorAt w b s v k wr) (pos : Nat) (o : Obj) : w.heap.size ≤ ((wr.iterAt (w.heap.size + 1) s pos).alloc o).heap.size := by
  have := h.2.2.2.2.size
  simp [Lib.iterAt_size]
  omega

/-- A round that put a digit. -/
theorem wor_next {w wr w' : World} {b k : Nat} {s : ByteArray} {v v' : Value} {o : Obj} (h : WorAt w b s v k wr) (hk : k < s.size) (hd : isD b s[k] = true)
    (ho : w'.ownsRow w.heap.size 5 1 v' ((s.data.toList.take k).map dv ++ [dv s[k]]).length (cellsB ((s.data.toList.take k).map dv ++ [dv s[k]])))
    (hg : ((wr.iterAt (w.heap.size + 1) s (k + 1)).alloc o).grownBy w' v.ownBlock) :
    (∃ (k : Nat) (x : Value), x = v' ∧ WorAt w b s x k w') ∧ s.size - w'.iterPos (w.heap.size + 1) < s.size - wr.iterPos (w.heap.size + 1) := by
  have hlt : w.heap.size + 1 < wr.heap.size := (Array.getElem?_eq_some_iff.1 h.2.2.2.1).1
  have hi : w'.heap[w.heap.size + 1]? = some (.stringIter s (k + 1)) := by
    have h1 : w'.heap[w.heap.size + 1]? = ((wr.iterAt (w.heap.size + 1) s (k + 1)).alloc o).heap[w.heap.size + 1]? := hg.block _ (by simp [Lib.iterAt_size]; omega) (fun e => own_off h _ e.symm rfl)
    rw [h1, Below.heap_alloc _ _ _ (by rw [Lib.iterAt_size]; exact hlt)]
    exact Lib.iterAt_heap wr _ s k _ h.2.2.2.1
  have hf : Fr (fun _ => False) w w' := ((h.2.2.2.2.iterAt (.inr (by omega)) s (k + 1)).alloc o).grown hg (fun i hi => .inr (h.2.2.1.lt i hi).1)
  refine ⟨⟨k + 1, v', rfl, h.step hk hd ho hi hf⟩, ?_⟩
  have e1 : w'.iterPos (w.heap.size + 1) = k + 1 := by simp [World.iterPos, hi]
  have e2 : wr.iterPos (w.heap.size + 1) = k := by simp [World.iterPos, h.2.2.2.1]
  rw [e1, e2]
  omega

/-- A round that met what is no digit: all that is told then. -/
theorem wor_break {w wr : World} {b k : Nat} {s : ByteArray} {v : Value} (pos : Nat) (h : WorAt w b s v k wr) (hk : k < s.size) (hd : isD b s[k] = false) :
    (wl b s.data.toList).length = k ∧ Makes w (wl b s.data.toList) v (wr.iterAt (w.heap.size + 1) s pos) := by
  obtain ⟨h1, h2⟩ := h.done (fun _ => hd)
  exact ⟨h1, own_keep h2.1 ((Fr.refl (fun i => i = w.heap.size + 1) wr).iterAt (.inl rfl) s pos) (own_off h), h2.2.iterAt (.inr (by omega)) s pos⟩

/-- The rune of what begins with no digit is none. -/
theorem rune_no (b : Nat) (hb : b ≤ 16) (s : ByteArray) (k : Nat) (hk : k < s.size) (hd : isD b s[k] = false) :
    ((Utf8.decode s k).1 < 48 ∨ 57 < (Utf8.decode s k).1) ∧ ((Utf8.decode s k).1 < 97 ∨ 87 + b ≤ (Utf8.decode s k).1) ∧ (Utf8.decode s k).1 ≤ 2147483647 := by
  have hd' : ¬ (48 ≤ s[k].toNat ∧ s[k].toNat ≤ 57) ∧ ¬ (97 ≤ s[k].toNat ∧ s[k].toNat < 87 + b) := by simpa only [isD, isDig, Bool.or_eq_false_iff, decide_eq_false_iff_not] using hd
  refine ⟨?_, ?_, decode_le s k⟩
  all_goals
    by_cases ha : s[k].toNat < 128
    · rw [decode_ascii s k hk ha]
      simp only
      omega
    · have := (decode_high s k hk (by omega)).1
      omega

set_option maxHeartbeats 4000000 in
set_option maxRecDepth 100000 in
theorem worths10 (s : ByteArray) (hs : s.size ≤ 3000) (w : World) :
    Calls Try.prog 61 #[.string s, .int .i32 10] w (Worths w 10 s.data.toList) := by
  obtain ⟨i0, hi, hz0, hz1, hz2⟩ := info_parts infoU8
  have hmk : ∀ u : World, (Instr.makeSlice 26 (.int .i64 0) (.int .i64 (s.size : Int))).run Try.prog u =
      .ok (.slice (some ⟨u.heap.size, 0, none⟩) 0 s.size) (u.alloc (.cells (madeCells #[.int .u8 0] s.size) 5)) := fun u => by
    have h := run_make (P := Try.prog) u 26 5 i0 (.int .u8 0) Try.underlying26 hi hz0 .i64 .i64 0 (s.size : Int) (by omega) (by omega) (by rw [hz2]; omega) (by omega)
    simpa [hz1, Value.cells] using h
  have hst : WorAt w 10 s (.slice (some ⟨w.heap.size, 0, none⟩) 0 s.size) 0 ((w.alloc (.cells (madeCells #[.int .u8 0] s.size) 5)).iter s 0) := by
    refine ⟨by omega, rfl, ?_, ?_, ((Fr.refl _ w).alloc _).alloc _⟩
    · have h0 := World.ownsRow_made (e := 5) (size := 1) (base := w.heap.size) w (madeCells #[.int .u8 0] s.size) s.size (Nat.le_refl _) (by unfold maxLen; omega) (by simp [madeCells])
      exact h0.alloc _
    · have := World.iter_heap (w.alloc (.cells (madeCells #[.int .u8 0] s.size) 5)) s 0
      simpa using this
  go_enter Try.func61, Try.ntmps61
  go_wp2_with fail
  go_step3
  go_wp2_with fail
  go_step3
  go_wp2_with fail
  clear hmk
  go_loopw [6] (fun x wr => ∃ (k : Nat) (v : Value), v = x ∧ WorAt w 10 s v k wr) (fun _ wr => s.size - wr.iterPos (w.heap.size + 1))
  case atStart => exact ⟨0, _, rfl, hst⟩
  case round =>
    obtain ⟨k, v, rfl, hat⟩ := hrel
    clear hst
    have hit := hat.2.2.2.1
    by_cases hlt : k < s.size
    · by_cases hdig : 48 ≤ s[k].toNat ∧ s[k].toNat ≤ 57
      · obtain ⟨hd1, hd2⟩ := hdig
        have hnx := fun ty => Lib.run_next_ascii_at (P := Try.prog) wr (w.heap.size + 1) s k ty hit hlt (by omega)
        have hdv : (((dv s[k]).toNat : Nat) : Int) = (s[k].toNat : Int) - 48 := by
          unfold dv
          rw [if_pos hd2, UInt8.toNat_ofNat']
          omega
        have hisd : isD 10 s[k] = true := by simp [isD, isDig, hd1, hd2]
        have hrd := Rd.one (wr.iterAt (w.heap.size + 1) s (k + 1)) 5 (dv s[k])
        rw [hdv] at hrd
        have hown := (own_keep (F := fun i => i = w.heap.size + 1) hat.2.2.1 ((Fr.refl (fun i => i = w.heap.size + 1) wr).iterAt (.inl rfl) s (k + 1)) (own_off hat)).alloc (.cells #[.int .u8 ((s[k].toNat : Int) - 48)] 5)
        have hsz : ((s.data.toList.take k).map dv).length + 1 ≤ 140737488355328 := by rw [List.length_map, List.length_take, Array.length_toList]; have : min k s.size ≤ s.size := Nat.min_le_right _ _; show min k s.size + 1 ≤ _; omega
        have H := Lib.hid (And.intro hat (And.intro hrd (And.intro hown (And.intro hsz hisd))))
        clear hat hit hdv hrd hown hsz hisd
        go_wp2_with (at_builtin; refine wpList_append_bytes _ rfl _ _ 26 rfl w.heap.size 5 i0 (.int .u8 0) Try.underlying26 hi hz0 hz1 hz2 rfl v ((s.data.toList.take k).map dv) [dv s[k]] rfl H.out.2.2.1 (some ⟨(wr.iterAt (w.heap.size + 1) s (k + 1)).heap.size, 0, none⟩) 1 1 rfl H.out.2.1 H.out.2.2.2.1 (worB H.out.1 _ _) ?_; intro v' w' hown hgrow hat)
        exact wor_next H.out.1 hlt H.out.2.2.2.2 hown hgrow
      · have hisd : isD 10 s[k] = false := by
          simp only [isD, isDig, Bool.or_eq_false_iff, decide_eq_false_iff_not]
          omega
        have hd := wor_break (k + (Utf8.decode s k).2) hat hlt hisd
        obtain ⟨A, c, hv, _, _, _, _⟩ := own_rd hd.2.1
        have hne : (wl 10 s.data.toList).length ≠ s.size := by omega
        subst hv
        have HD := Lib.hid (And.intro hd hne)
        have hnx := fun ty => Lib.run_next_any_at (P := Try.prog) wr (w.heap.size + 1) s k ty hit hlt
        have hru := rune_no 10 (by omega) s k hlt hisd
        have hne2 : (((wl 10 s.data.toList).length : Int) == (s.size : Int)) = false := by rw [beq_eq_false_iff_ne]; omega
        clear hat hit hdig hisd hd hne
        generalize Utf8.decode s k = rd at *
        obtain ⟨r, d⟩ := rd
        simp only at hru hnx HD
        obtain ⟨hr0, hr1, hr2⟩ := hru
        have hr3 : r < 48 ∨ (57 < r ∧ r < 97) ∨ 97 ≤ r := by omega
        clear hr0 hr1
        rcases hr3 with q | ⟨q1, q2⟩ | q
        · have d1 : decide (48 ≤ (r : Int)) = false := by rw [decide_eq_false_iff_not]; omega
          have d3 : decide (97 ≤ (r : Int)) = false := by rw [decide_eq_false_iff_not]; omega
          go_wp2_with fail
          go_ret2
          refine ⟨_, ?_, HD.out.1.2⟩
          rw [show (((wl 10 s.data.toList).length : Int) == (s.data.toList.length : Int)) = false from hne2]
          rfl
        · have d1 : decide (48 ≤ (r : Int)) = true := by rw [decide_eq_true_eq]; omega
          have d2 : decide ((r : Int) ≤ 57) = false := by rw [decide_eq_false_iff_not]; omega
          have d3 : decide (97 ≤ (r : Int)) = false := by rw [decide_eq_false_iff_not]; omega
          go_wp2_with fail
          go_ret2
          refine ⟨_, ?_, HD.out.1.2⟩
          rw [show (((wl 10 s.data.toList).length : Int) == (s.data.toList.length : Int)) = false from hne2]
          rfl
        · have d1 : decide (48 ≤ (r : Int)) = true := by rw [decide_eq_true_eq]; omega
          have d2 : decide ((r : Int) ≤ 57) = false := by rw [decide_eq_false_iff_not]; omega
          have d3 : decide (97 ≤ (r : Int)) = true := by rw [decide_eq_true_eq]; omega
          have d4 : decide ((r : Int) < 97) = false := by rw [decide_eq_false_iff_not]; omega
          go_wp2_with fail
          go_ret2
          refine ⟨_, ?_, HD.out.1.2⟩
          rw [show (((wl 10 s.data.toList).length : Int) == (s.data.toList.length : Int)) = false from hne2]
          rfl
    · have hnx := fun ty => Lib.run_next_end_at (P := Try.prog) wr (w.heap.size + 1) s k ty hit hlt
      have hd := hat.done (fun h => absurd h hlt)
      have hk : k = s.size := by have := hat.1; omega
      obtain ⟨A, c, rfl, _, _, _, _⟩ := own_rd hd.2.1
      have HD := Lib.hid hd
      clear hit hd hat
      go_wp2_with fail
      rw [Exit.noGoto_ret]
      go_ret2
      exact ⟨_, rfl, HD.out.2⟩

set_option maxHeartbeats 4000000 in
set_option maxRecDepth 100000 in
theorem worths16 (s : ByteArray) (hs : s.size ≤ 10000) (w : World) :
    Calls Try.prog 61 #[.string s, .int .i32 16] w (Worths w 16 s.data.toList) := by
  obtain ⟨i0, hi, hz0, hz1, hz2⟩ := info_parts infoU8
  have hmk : ∀ u : World, (Instr.makeSlice 26 (.int .i64 0) (.int .i64 (s.size : Int))).run Try.prog u =
      .ok (.slice (some ⟨u.heap.size, 0, none⟩) 0 s.size) (u.alloc (.cells (madeCells #[.int .u8 0] s.size) 5)) := fun u => by
    have h := run_make (P := Try.prog) u 26 5 i0 (.int .u8 0) Try.underlying26 hi hz0 .i64 .i64 0 (s.size : Int) (by omega) (by omega) (by rw [hz2]; omega) (by omega)
    simpa [hz1, Value.cells] using h
  have hst : WorAt w 16 s (.slice (some ⟨w.heap.size, 0, none⟩) 0 s.size) 0 ((w.alloc (.cells (madeCells #[.int .u8 0] s.size) 5)).iter s 0) := by
    refine ⟨by omega, rfl, ?_, ?_, ((Fr.refl _ w).alloc _).alloc _⟩
    · have h0 := World.ownsRow_made (e := 5) (size := 1) (base := w.heap.size) w (madeCells #[.int .u8 0] s.size) s.size (Nat.le_refl _) (by unfold maxLen; omega) (by simp [madeCells])
      exact h0.alloc _
    · have := World.iter_heap (w.alloc (.cells (madeCells #[.int .u8 0] s.size) 5)) s 0
      simpa using this
  go_enter Try.func61, Try.ntmps61
  go_wp2_with fail
  go_step3
  go_wp2_with fail
  go_step3
  go_wp2_with fail
  clear hmk
  go_loopw [6] (fun x wr => ∃ (k : Nat) (v : Value), v = x ∧ WorAt w 16 s v k wr) (fun _ wr => s.size - wr.iterPos (w.heap.size + 1))
  case atStart => exact ⟨0, _, rfl, hst⟩
  case round =>
    obtain ⟨k, v, rfl, hat⟩ := hrel
    clear hst
    have hit := hat.2.2.2.1
    by_cases hlt : k < s.size
    · by_cases hdig : 48 ≤ s[k].toNat ∧ s[k].toNat ≤ 57
      · obtain ⟨hd1, hd2⟩ := hdig
        have hnx := fun ty => Lib.run_next_ascii_at (P := Try.prog) wr (w.heap.size + 1) s k ty hit hlt (by omega)
        have hdv : (((dv s[k]).toNat : Nat) : Int) = (s[k].toNat : Int) - 48 := by
          unfold dv
          rw [if_pos hd2, UInt8.toNat_ofNat']
          omega
        have hisd : isD 16 s[k] = true := by simp [isD, isDig, hd1, hd2]
        have hrd := Rd.one (wr.iterAt (w.heap.size + 1) s (k + 1)) 5 (dv s[k])
        rw [hdv] at hrd
        have hown := (own_keep (F := fun i => i = w.heap.size + 1) hat.2.2.1 ((Fr.refl (fun i => i = w.heap.size + 1) wr).iterAt (.inl rfl) s (k + 1)) (own_off hat)).alloc (.cells #[.int .u8 ((s[k].toNat : Int) - 48)] 5)
        have hsz : ((s.data.toList.take k).map dv).length + 1 ≤ 140737488355328 := by rw [List.length_map, List.length_take, Array.length_toList]; have : min k s.size ≤ s.size := Nat.min_le_right _ _; show min k s.size + 1 ≤ _; omega
        have H := Lib.hid (And.intro hat (And.intro hrd (And.intro hown (And.intro hsz hisd))))
        clear hat hit hdv hrd hown hsz hisd
        go_wp2_with (at_builtin; refine wpList_append_bytes _ rfl _ _ 26 rfl w.heap.size 5 i0 (.int .u8 0) Try.underlying26 hi hz0 hz1 hz2 rfl v ((s.data.toList.take k).map dv) [dv s[k]] rfl H.out.2.2.1 (some ⟨(wr.iterAt (w.heap.size + 1) s (k + 1)).heap.size, 0, none⟩) 1 1 rfl H.out.2.1 H.out.2.2.2.1 (worB H.out.1 _ _) ?_; intro v' w' hown hgrow hat)
        exact wor_next H.out.1 hlt H.out.2.2.2.2 hown hgrow
      · by_cases hlet : 97 ≤ s[k].toNat ∧ s[k].toNat < 103
        · obtain ⟨hd1, hd2⟩ := hlet
          clear hdig
          have hnx := fun ty => Lib.run_next_ascii_at (P := Try.prog) wr (w.heap.size + 1) s k ty hit hlt (by omega)
          have hdv : (((dv s[k]).toNat : Nat) : Int) = (s[k].toNat : Int) - 97 + 10 := by
            unfold dv
            rw [if_neg (by omega), UInt8.toNat_ofNat']
            omega
          have hisd : isD 16 s[k] = true := by simp [isD, hd1, hd2]
          have d1 : decide (48 ≤ (s[k].toNat : Int)) = true := by rw [decide_eq_true_eq]; omega
          have d2 : decide ((s[k].toNat : Int) ≤ 57) = false := by rw [decide_eq_false_iff_not]; omega
          have d3 : decide (97 ≤ (s[k].toNat : Int)) = true := by rw [decide_eq_true_eq]; omega
          have d4 : decide ((s[k].toNat : Int) < 103) = true := by rw [decide_eq_true_eq]; omega
          have hrd := Rd.one (wr.iterAt (w.heap.size + 1) s (k + 1)) 5 (dv s[k])
          rw [hdv] at hrd
          have hown := (own_keep (F := fun i => i = w.heap.size + 1) hat.2.2.1 ((Fr.refl (fun i => i = w.heap.size + 1) wr).iterAt (.inl rfl) s (k + 1)) (own_off hat)).alloc (.cells #[.int .u8 ((s[k].toNat : Int) - 97 + 10)] 5)
          have hsz : ((s.data.toList.take k).map dv).length + 1 ≤ 140737488355328 := by rw [List.length_map, List.length_take, Array.length_toList]; have : min k s.size ≤ s.size := Nat.min_le_right _ _; show min k s.size + 1 ≤ _; omega
          have H := Lib.hid (And.intro hat (And.intro hrd (And.intro hown (And.intro hsz hisd))))
          clear hat hit hdv hrd hown hsz hisd
          go_wp2_with (at_builtin; refine wpList_append_bytes _ rfl _ _ 26 rfl w.heap.size 5 i0 (.int .u8 0) Try.underlying26 hi hz0 hz1 hz2 rfl v ((s.data.toList.take k).map dv) [dv s[k]] rfl H.out.2.2.1 (some ⟨(wr.iterAt (w.heap.size + 1) s (k + 1)).heap.size, 0, none⟩) 1 1 rfl H.out.2.1 H.out.2.2.2.1 (worB H.out.1 _ _) ?_; intro v' w' hown hgrow hat)
          exact wor_next H.out.1 hlt H.out.2.2.2.2 hown hgrow
        · have hisd : isD 16 s[k] = false := by
            simp only [isD, isDig, Bool.or_eq_false_iff, decide_eq_false_iff_not]
            omega
          have hd := wor_break (k + (Utf8.decode s k).2) hat hlt hisd
          obtain ⟨A, c, hv, _, _, _, _⟩ := own_rd hd.2.1
          have hne : (wl 16 s.data.toList).length ≠ s.size := by omega
          subst hv
          have HD := Lib.hid (And.intro hd hne)
          have hnx := fun ty => Lib.run_next_any_at (P := Try.prog) wr (w.heap.size + 1) s k ty hit hlt
          have hru := rune_no 16 (by omega) s k hlt hisd
          have hne2 : (((wl 16 s.data.toList).length : Int) == (s.size : Int)) = false := by rw [beq_eq_false_iff_ne]; omega
          clear hat hit hdig hlet hisd hd hne
          generalize Utf8.decode s k = rd at *
          obtain ⟨r, d⟩ := rd
          simp only at hru hnx HD
          obtain ⟨hr0, hr1, hr2⟩ := hru
          have hr3 : r < 48 ∨ (57 < r ∧ r < 97) ∨ 103 ≤ r := by omega
          clear hr0 hr1
          rcases hr3 with q | ⟨q1, q2⟩ | q
          · have d1 : decide (48 ≤ (r : Int)) = false := by rw [decide_eq_false_iff_not]; omega
            have d3 : decide (97 ≤ (r : Int)) = false := by rw [decide_eq_false_iff_not]; omega
            go_wp2_with fail
            go_ret2
            refine ⟨_, ?_, HD.out.1.2⟩
            rw [show (((wl 16 s.data.toList).length : Int) == (s.data.toList.length : Int)) = false from hne2]
            rfl
          · have d1 : decide (48 ≤ (r : Int)) = true := by rw [decide_eq_true_eq]; omega
            have d2 : decide ((r : Int) ≤ 57) = false := by rw [decide_eq_false_iff_not]; omega
            have d3 : decide (97 ≤ (r : Int)) = false := by rw [decide_eq_false_iff_not]; omega
            go_wp2_with fail
            go_ret2
            refine ⟨_, ?_, HD.out.1.2⟩
            rw [show (((wl 16 s.data.toList).length : Int) == (s.data.toList.length : Int)) = false from hne2]
            rfl
          · have d1 : decide (48 ≤ (r : Int)) = true := by rw [decide_eq_true_eq]; omega
            have d2 : decide ((r : Int) ≤ 57) = false := by rw [decide_eq_false_iff_not]; omega
            have d3 : decide (97 ≤ (r : Int)) = true := by rw [decide_eq_true_eq]; omega
            have d4 : decide ((r : Int) < 103) = false := by rw [decide_eq_false_iff_not]; omega
            go_wp2_with fail
            go_ret2
            refine ⟨_, ?_, HD.out.1.2⟩
            rw [show (((wl 16 s.data.toList).length : Int) == (s.data.toList.length : Int)) = false from hne2]
            rfl
    · have hnx := fun ty => Lib.run_next_end_at (P := Try.prog) wr (w.heap.size + 1) s k ty hit hlt
      have hd := hat.done (fun h => absurd h hlt)
      have hk : k = s.size := by have := hat.1; omega
      obtain ⟨A, c, rfl, _, _, _, _⟩ := own_rd hd.2.1
      have HD := Lib.hid hd
      clear hit hd hat
      go_wp2_with fail
      rw [Exit.noGoto_ret]
      go_ret2
      exact ⟨_, rfl, HD.out.2⟩

end Go.Proofs.Ythmjfbefekicdaa
