/- A list of events that came in; their bytes; what a reader takes off these. -/
import Derived.Test.YtmjkcjllpnpgpaaOpen
import Derived.Test.YtmjkcjllpnpgpaaRest
namespace Go.Proofs.Ytmjkcjllpnpgpaa
open Go.ChangeShapes Go.WideShapes Go.ChangeAt Go.RowKit

/-- An event, as it lies in memory. -/
structure EvD where
  d : Int
  cp : Nat
  fr : Nat
  to : Nat
  lv : Bool
  nt : ByteArray
  cr : ByteArray

/-- An event that may have come in. -/
structure EvOk (x : EvD) : Prop where
  d0 : -9223372036854775808 ≤ x.d
  d1 : x.d ≤ 9223372036854775807
  cp : x.cp ≤ 18446744073709551615
  fr : x.fr ≤ 255
  to : x.to ≤ 255
  nt : x.nt.size ≤ maxLen
  cr : x.cr.size ≤ maxLen

/-- At the place i of the slice that stands at L lies the event x. -/
def EvAt (w : World) (b p : Nat) (x : EvD) : Prop :=
  w.cell? ⟨b, p, none⟩ = some (.int .i64 x.d) ∧ w.cell? ⟨b, p + 1, none⟩ = some (.int .u64 (x.cp : Nat)) ∧ w.cell? ⟨b, p + 2, none⟩ = some (.int .u8 (x.fr : Nat)) ∧
    w.cell? ⟨b, p + 3, none⟩ = some (.int .u8 (x.to : Nat)) ∧ w.cell? ⟨b, p + 4, none⟩ = some (.bool x.lv) ∧ w.cell? ⟨b, p + 5, none⟩ = some (.string x.nt) ∧ w.cell? ⟨b, p + 6, none⟩ = some (.string x.cr)
def EvsO (w : World) (L : Option Addr) (xs : List EvD) : Prop :=
  ∀ i x, xs[i]? = some x → ∃ b off, L = some ⟨b, off, none⟩ ∧ EvOk x ∧ EvAt w b (off + i * 7) x

theorem EvAt.keep {F : Nat → Prop} {w w' : World} {b p : Nat} {x : EvD} (h : EvAt w b p x) (f : Fr F w w') (hF : ¬ F b) : EvAt w' b p x := by
  obtain ⟨h0, h1, h2, h3, h4, h5, h6⟩ := h
  have hb : b < w.heap.size := World.block_lt_of_cell? w _ h0
  have k : ∀ (q : Nat) (u : Value), w.cell? ⟨b, q, none⟩ = some u → w'.cell? ⟨b, q, none⟩ = some u := fun q u hu => (f.cell (p := ⟨b, q, none⟩) hb hF).trans hu
  exact ⟨k _ _ h0, k _ _ h1, k _ _ h2, k _ _ h3, k _ _ h4, k _ _ h5, k _ _ h6⟩

theorem cellsEv : Try.prog.cellsOf 53 = 7 := by kernel_rfl
theorem cellsI64 : Try.prog.cellsOf 2 = 1 := by kernel_rfl
theorem cellsBool : Try.prog.cellsOf 4 = 1 := by kernel_rfl
theorem cellsStr : Try.prog.cellsOf 9 = 1 := by kernel_rfl
theorem undEv : Try.prog.underlying 53 = some (.struct #[⟨"Day", 2, 0, false, "", "", 0⟩, ⟨"Coupon", 32, 1, false, "", "", 8⟩, ⟨"From", 5, 2, false, "", "", 16⟩, ⟨"To", 5, 3, false, "", "", 17⟩, ⟨"Live", 4, 4, false, "", "", 18⟩, ⟨"Note", 9, 5, false, "", "", 24⟩, ⟨"Carrier", 9, 6, false, "", "", 40⟩]) := by kernel_rfl

section
variable {H : Type} {enc : TypeId × Value → H} {w : World}

theorem u8nat_of_wf {a : Int} (h : (Lit.int .u8 a).wf = true) : ∃ n : Nat, a = n ∧ n ≤ 255 := by
  have := u8_of_wf h
  exact ⟨a.toNat, by omega, by omega⟩

theorem trod_struct7 {P : Program} {base : Nat} {spare : Nat → Bool} {held : Bool} {t : TypeId} {f0 f1 f2 f3 f4 f5 f6 : Field} {fuel : Nat} {cs : List Value} {x : DataW H × List MemPlace} (ht : P.underlying t = some (.struct #[f0, f1, f2, f3, f4, f5, f6])) (h : DataW.trod enc P w base spare held fuel t cs = some x) :
    ∃ y0 y1 y2 y3 y4 y5 y6 n, DataW.trod enc P w base spare held n f0.type ((cs.drop f0.offset).take (P.cellsOf f0.type)) = some y0 ∧
      DataW.trod enc P w base spare held n f1.type ((cs.drop f1.offset).take (P.cellsOf f1.type)) = some y1 ∧ DataW.trod enc P w base spare held n f2.type ((cs.drop f2.offset).take (P.cellsOf f2.type)) = some y2 ∧
      DataW.trod enc P w base spare held n f3.type ((cs.drop f3.offset).take (P.cellsOf f3.type)) = some y3 ∧ DataW.trod enc P w base spare held n f4.type ((cs.drop f4.offset).take (P.cellsOf f4.type)) = some y4 ∧
      DataW.trod enc P w base spare held n f5.type ((cs.drop f5.offset).take (P.cellsOf f5.type)) = some y5 ∧ DataW.trod enc P w base spare held n f6.type ((cs.drop f6.offset).take (P.cellsOf f6.type)) = some y6 := by
  obtain ⟨xs, n, _, rfl, hl, hlen, hf⟩ := DataW.trod_struct ht h
  match xs, hlen with
  | [y0, y1, y2, y3, y4, y5, y6], _ => exact ⟨y0, y1, y2, y3, y4, y5, y6, n, by simpa using hf 0 f0 rfl, by simpa using hf 1 f1 rfl, by simpa using hf 2 f2 rfl, by simpa using hf 3 f3 rfl, by simpa using hf 4 f4 rfl, by simpa using hf 5 f5 rfl, by simpa using hf 6 f6 rfl⟩

theorem open_ev {a : Addr} {i : Nat} {fuel : Nat} {cs : List Value} {x : DataW H × List MemPlace} (hc : w.cells? 0 (a.add (i * 7)) 7 = some cs) (h : DataW.trod enc Try.prog w 0 (fun _ => true) true fuel 53 cs = some x) :
    ∃ p : EvD, EvOk p ∧ w.cell? (a.add (i * 7)) = some (.int .i64 p.d) ∧ w.cell? (a.add (i * 7 + 1)) = some (.int .u64 (p.cp : Nat)) ∧ w.cell? (a.add (i * 7 + 2)) = some (.int .u8 (p.fr : Nat)) ∧ w.cell? (a.add (i * 7 + 3)) = some (.int .u8 (p.to : Nat)) ∧
      w.cell? (a.add (i * 7 + 4)) = some (.bool p.lv) ∧ w.cell? (a.add (i * 7 + 5)) = some (.string p.nt) ∧ w.cell? (a.add (i * 7 + 6)) = some (.string p.cr) := by
  obtain ⟨_, hlen, hat⟩ := World.cells?_some hc
  match cs, hlen with
  | [c0, c1, c2, c3, c4, c5, c6], _ =>
    obtain ⟨y0, y1, y2, y3, y4, y5, y6, n, t0, t1, t2, t3, t4, t5, t6⟩ := trod_struct7 undEv h
    simp only [cellsI64, cells32, cells5, cellsBool, cellsStr, List.drop_zero, List.drop_succ_cons, List.take_succ_cons, List.take_zero] at t0 t1 t2 t3 t4 t5 t6
    obtain ⟨k, e0, _, wk⟩ := DataW.trod_int Try.underlying2 t0
    obtain ⟨u, e1, _, wu⟩ := DataW.trod_int Try.underlying32 t1
    obtain ⟨p, e2, _, wp⟩ := DataW.trod_int Try.underlying5 t2
    obtain ⟨q, e3, _, wq⟩ := DataW.trod_int Try.underlying5 t3
    obtain ⟨b, e4, _⟩ := DataW.trod_bool Try.underlying4 t4
    obtain ⟨s, e5, _, hs⟩ := DataW.trod_string Try.underlying9 t5
    obtain ⟨z, e6, _, hz⟩ := DataW.trod_string Try.underlying9 t6
    obtain ⟨nn, rfl, hn⟩ := nat_of_wf wu
    obtain ⟨n2, rfl, hn2⟩ := u8nat_of_wf wp
    obtain ⟨n3, rfl, hn3⟩ := u8nat_of_wf wq
    injection e0 with e0
    injection e1 with e1
    injection e2 with e2
    injection e3 with e3
    injection e4 with e4
    injection e5 with e5
    injection e6 with e6
    subst e0 e1 e2 e3 e4 e5 e6
    have a0 := hat 0 (by omega)
    have a1 := hat 1 (by omega)
    have a2 := hat 2 (by omega)
    have a3 := hat 3 (by omega)
    have a4 := hat 4 (by omega)
    have a5 := hat 5 (by omega)
    have a6 := hat 6 (by omega)
    rw [add_add] at a0 a1 a2 a3 a4 a5 a6
    exact ⟨⟨k, nn, n2, n3, b, s, z⟩, ⟨(i64_of_wf wk).1, (i64_of_wf wk).2, by show nn ≤ _; omega, hn2, hn3, hs, hz⟩, a0, a1, a2, a3, a4, a5, a6⟩

/-- A list of events that came in. -/
theorem open_evs {v : Value} {d : DataW H} {p : List MemPlace} (hval : ∃ a len cap, v = .slice a len cap) (h : DataW.Trod enc Try.prog w 0 (fun _ => true) true 50 v d p) :
    ∃ (L : Option Addr) (cap : Nat) (xs : List EvD), v = .slice L xs.length cap ∧ xs.length ≤ maxLen ∧ EvsO w L xs := by
  obtain ⟨a0, len, cap, rfl⟩ := hval
  obtain ⟨fuel, hf⟩ := h
  rcases Deep.open_slice Try.underlying50 hf with ⟨hcs, _⟩ | ⟨a, len', cap', m, n, D, Pl, hcs, _, hl, hcm, hm, _, hi⟩
  · simp [Value.cells] at hcs
    obtain ⟨rfl, rfl, rfl⟩ := hcs
    exact ⟨none, 0, [], rfl, Nat.zero_le _, fun i x h => by simp at h⟩
  · simp [Value.cells] at hcs
    obtain ⟨rfl, rfl, rfl⟩ := hcs
    simp only [if_true] at hm
    rcases Nat.eq_zero_or_pos len with rfl | hpos
    · exact ⟨_, _, [], rfl, Nat.zero_le _, fun i x h => by simp at h⟩
    · obtain ⟨xs, hxl, hx⟩ := list_of (Q := fun i (p : EvD) => EvOk p ∧ w.cell? (a.add (i * 7)) = some (.int .i64 p.d) ∧ w.cell? (a.add (i * 7 + 1)) = some (.int .u64 (p.cp : Nat)) ∧ w.cell? (a.add (i * 7 + 2)) = some (.int .u8 (p.fr : Nat)) ∧ w.cell? (a.add (i * 7 + 3)) = some (.int .u8 (p.to : Nat)) ∧
          w.cell? (a.add (i * 7 + 4)) = some (.bool p.lv) ∧ w.cell? (a.add (i * 7 + 5)) = some (.string p.nt) ∧ w.cell? (a.add (i * 7 + 6)) = some (.string p.cr)) len (fun i hil => by
        obtain ⟨cs', hc, ht⟩ := hi i (by omega)
        rw [cellsEv] at hc
        exact open_ev hc ht)
      have h0 := (hx 0 xs[0] (List.getElem?_eq_getElem (by omega))).2.1
      have hpl := plain_addr (a := a) h0
      obtain ⟨b, off, sp⟩ := a
      obtain rfl : sp = none := by injection hpl
      subst hxl
      refine ⟨some ⟨b, off, none⟩, cap, xs, rfl, by omega, fun i x hix => ?_⟩
      obtain ⟨q, q0, q1, q2, q3, q4, q5, q6⟩ := hx i x hix
      rw [add_plain] at q0 q1 q2 q3 q4 q5 q6
      exact ⟨b, off, rfl, q, q0, q1, q2, q3, q4, q5, q6⟩
end

/-! Their bytes. -/
def blobB (s : ByteArray) : List UInt8 := be s.size 4 ++ s.data.toList
def evB (x : EvD) : List UInt8 := be (IntKind.u64.wrap x.d).toNat 8 ++ (be x.cp 8 ++ (be x.fr 1 ++ (be x.to 1 ++ (be (if x.lv then 1 else 0) 1 ++ (blobB x.nt ++ blobB x.cr)))))
def evsB : List EvD → List UInt8
  | [] => []
  | x :: r => evB x ++ evsB r
theorem evsB_snoc (xs : List EvD) (x : EvD) : evsB (xs ++ [x]) = evsB xs ++ evB x := by
  induction xs with
  | nil => simp [evsB]
  | cons y r ih => simp [evsB, ih]
theorem blobB_len (s : ByteArray) : (blobB s).length = 4 + s.size := by
  rw [blobB, List.length_append, be_len]; rfl
theorem evB_len (x : EvD) : (evB x).length = 27 + x.nt.size + x.cr.size := by
  simp only [evB, List.length_append, be_len, blobB_len]; omega
theorem evsB_len (xs : List EvD) (h : ∀ x ∈ xs, x.nt.size ≤ 300 ∧ x.cr.size ≤ 300) : (evsB xs).length ≤ xs.length * 627 := by
  induction xs with
  | nil => simp [evsB]
  | cons y r ih =>
    have h1 := h y (by simp)
    have h2 := ih (fun x hx => h x (by simp [hx]))
    simp only [evsB, List.length_append, evB_len, List.length_cons]
    omega

/-- A number off its own bytes, and whatever is behind. -/
theorem be_succ (n s : Nat) : be n (s + 1) = UInt8.ofNat (n / 256 ^ s % 256) :: be n s := by
  unfold be
  rw [List.range_succ_eq_map, List.map_cons, List.map_map]
  congr 1
  apply List.map_congr_left
  intro i hi
  simp only [Function.comp_apply]
  congr 4
  omega
theorem numOf_be_mod (n : Nat) : ∀ s, numOf (be n s) = n % 256 ^ s
  | 0 => by simp [be, numOf, Nat.mod_one]
  | s + 1 => by
    have e : be n (s + 1) = [UInt8.ofNat (n / 256 ^ s % 256)] ++ be n s := be_succ n s
    have h1 : numOf [UInt8.ofNat (n / 256 ^ s % 256)] = n / 256 ^ s % 256 := by
      simp [numOf, UInt8.toNat_ofNat']
    rw [e, numOf_app, h1, be_len, numOf_be_mod n s, Nat.pow_succ, Nat.mod_mul, Nat.mul_comm, Nat.add_comm]
theorem numOf_be (n s : Nat) (hn : n < 256 ^ s) : numOf (be n s) = n := by
  rw [numOf_be_mod, Nat.mod_eq_of_lt hn]
theorem tk_be (n s : Nat) (hs : maySz (s : Int) = true) (hn : n < 256 ^ s) (r : List UInt8) : tkOk (be n s ++ r) s = true ∧ tkNum (be n s ++ r) s = n ∧ tkRest (be n s ++ r) s = r := by
  have h0 : tkOk (be n s ++ r) s = true := by
    simp [tkOk, hs, be_len]; omega
  refine ⟨h0, ?_, ?_⟩
  · unfold tkNum
    rw [if_pos h0, Int.toNat_natCast, List.take_left' (be_len n s), numOf_be n s hn]
  · unfold tkRest
    rw [if_pos h0, Int.toNat_natCast, List.drop_left' (be_len n s)]
theorem tk8 (n : Nat) (hn : n ≤ 18446744073709551615) (r : List UInt8) : tkOk (be n 8 ++ r) 8 = true ∧ tkNum (be n 8 ++ r) 8 = n ∧ tkRest (be n 8 ++ r) 8 = r := tk_be n 8 rfl (by omega) r
theorem tk4 (n : Nat) (hn : n ≤ 4294967295) (r : List UInt8) : tkOk (be n 4 ++ r) 4 = true ∧ tkNum (be n 4 ++ r) 4 = n ∧ tkRest (be n 4 ++ r) 4 = r := tk_be n 4 rfl (by omega) r
theorem tk2 (n : Nat) (hn : n ≤ 65535) (r : List UInt8) : tkOk (be n 2 ++ r) 2 = true ∧ tkNum (be n 2 ++ r) 2 = n ∧ tkRest (be n 2 ++ r) 2 = r := tk_be n 2 rfl (by omega) r
theorem tk1 (n : Nat) (hn : n ≤ 255) (r : List UInt8) : tkOk (be n 1 ++ r) 1 = true ∧ tkNum (be n 1 ++ r) 1 = n ∧ tkRest (be n 1 ++ r) 1 = r := tk_be n 1 rfl (by omega) r
/-- Two numbers of one byte, taken as one of two. -/
theorem tk11 (a b : Nat) (r : List UInt8) : tkOk (be a 1 ++ (be b 1 ++ r)) 2 = true ∧ tkRest (be a 1 ++ (be b 1 ++ r)) 2 = r := by
  have h0 : tkOk (be a 1 ++ (be b 1 ++ r)) 2 = true := by
    simp [tkOk, maySz, be_len]; omega
  refine ⟨h0, ?_⟩
  unfold tkRest
  rw [if_pos h0, ← List.append_assoc]
  exact List.drop_left' (by simp [be_len])
theorem fl_be (b : Bool) (r : List UInt8) : flOk (be (if b then 1 else 0) 1 ++ r) = true ∧ decide (tkNum (be (if b then 1 else 0) 1 ++ r) 1 = 1) = b ∧ flRest (be (if b then 1 else 0) 1 ++ r) = r := by
  obtain ⟨h1, h2, h3⟩ := tk1 (if b then 1 else 0) (by cases b <;> simp) r
  have h0 : flOk (be (if b then 1 else 0) 1 ++ r) = true := by
    unfold flOk; rw [h1, h2]; cases b <;> simp
  refine ⟨h0, by rw [h2]; cases b <;> simp, ?_⟩
  unfold flRest
  rw [if_pos h0]
  exact List.drop_left' (be_len _ 1)
theorem size_len (s : ByteArray) : s.data.toList.length = s.size := rfl
theorem bl_be (s : ByteArray) (hs : s.size ≤ 16777216) (r : List UInt8) : blOk (blobB s ++ r) = true ∧ blGot (blobB s ++ r) = s.data.toList ∧ blRest (blobB s ++ r) = r := by
  have e : blobB s ++ r = be s.size 4 ++ (s.data.toList ++ r) := by simp [blobB]
  obtain ⟨h1, h2, h3⟩ := tk4 s.size (by omega) (s.data.toList ++ r)
  have h0 : blOk (blobB s ++ r) = true := by
    unfold blOk
    rw [e, h1, h2, h3]
    simp [byOk, hs]
    omega
  have hd : (be s.size 4 ++ (s.data.toList ++ r)).drop 4 = s.data.toList ++ r := List.drop_left' (be_len _ 4)
  refine ⟨h0, ?_, ?_⟩
  · unfold blGot
    rw [if_pos h0, e, h2, hd]
    exact List.take_left' (size_len s)
  · unfold blRest
    rw [if_pos h0, e, h2, hd]
    exact List.drop_left' (size_len s)
/-- A blob less its last byte is none. -/
theorem bl_less (s : ByteArray) (hs : s.size ≤ 16777216) : blOk (blobB s).dropLast = false := by
  have hl := blobB_len s
  rcases Nat.eq_zero_or_pos s.size with h0 | h0
  · have : tkOk (blobB s).dropLast 4 = false := by
      simp [tkOk, hl, h0]
    simp [blOk, this]
  · have hne : s.data.toList ≠ [] := by
      intro h; rw [← size_len, h] at h0; simp at h0
    have e : (blobB s).dropLast = be s.size 4 ++ s.data.toList.dropLast := by
      rw [blobB, List.dropLast_append_of_ne_nil hne]
    obtain ⟨h1, h2, h3⟩ := tk4 s.size (by omega) s.data.toList.dropLast
    unfold blOk
    rw [e, h1, h2, h3]
    simp [byOk, hs, size_len]
    omega

/-- What the torn list's reader has left behind a round, and has it failed? -/
def r6 (l : List UInt8) : List UInt8 := blRest (blRest (flRest (tkRest (tkRest (tkRest l 8) 8) 2)))
def f6 (f : Bool) (l : List UInt8) : Bool :=
  f || !tkOk l 8 || !tkOk (tkRest l 8) 8 || !tkOk (tkRest (tkRest l 8) 8) 2 || !flOk (tkRest (tkRest (tkRest l 8) 8) 2) || !blOk (flRest (tkRest (tkRest (tkRest l 8) 8) 2)) || !blOk (blRest (flRest (tkRest (tkRest (tkRest l 8) 8) 2)))

theorem wrapU_nat (n : Int) : (IntKind.u64.wrap n).toNat ≤ 18446744073709551615 := by
  have := wrapU_le n; omega
theorem r6_ev (x : EvD) (hx : EvOk x) (hn : x.nt.size ≤ 300) (hc : x.cr.size ≤ 300) (r : List UInt8) : r6 (evB x ++ r) = r ∧ f6 false (evB x ++ r) = false := by
  have e : evB x ++ r = be (IntKind.u64.wrap x.d).toNat 8 ++ (be x.cp 8 ++ (be x.fr 1 ++ (be x.to 1 ++ (be (if x.lv then 1 else 0) 1 ++ (blobB x.nt ++ (blobB x.cr ++ r)))))) := by simp [evB]
  unfold r6 f6
  rw [e, (tk8 _ (wrapU_nat x.d) _).1, (tk8 _ (wrapU_nat x.d) _).2.2, (tk8 _ hx.cp _).1, (tk8 _ hx.cp _).2.2, (tk11 _ _ _).1, (tk11 _ _ _).2, (fl_be _ _).1, (fl_be _ _).2.2, (bl_be _ (by omega) _).1, (bl_be _ (by omega) _).2.2, (bl_be _ (by omega) _).1, (bl_be _ (by omega) _).2.2]
  exact ⟨rfl, rfl⟩
theorem blobB_ne (s : ByteArray) : blobB s ≠ [] := by
  intro h; have := blobB_len s; rw [h] at this; simp at this; omega
theorem evB_ne (x : EvD) : evB x ≠ [] := by
  intro h; have := evB_len x; rw [h] at this; simp at this; omega
theorem r6_less (x : EvD) (hx : EvOk x) (hn : x.nt.size ≤ 300) (hc : x.cr.size ≤ 300) : r6 (evB x).dropLast = [] ∧ f6 false (evB x).dropLast = true := by
  have e : (evB x).dropLast = be (IntKind.u64.wrap x.d).toNat 8 ++ (be x.cp 8 ++ (be x.fr 1 ++ (be x.to 1 ++ (be (if x.lv then 1 else 0) 1 ++ (blobB x.nt ++ (blobB x.cr).dropLast))))) := by
    have h5 := blobB_ne x.cr
    unfold evB
    rw [List.dropLast_append_of_ne_nil (by simp [h5]), List.dropLast_append_of_ne_nil (by simp [h5]), List.dropLast_append_of_ne_nil (by simp [h5]), List.dropLast_append_of_ne_nil (by simp [h5]), List.dropLast_append_of_ne_nil (by simp [h5]), List.dropLast_append_of_ne_nil h5]
  have hb := bl_less x.cr (by omega)
  have hr : blRest (blobB x.cr).dropLast = [] := by simp [blRest, hb]
  unfold r6 f6
  rw [e, (tk8 _ (wrapU_nat x.d) _).1, (tk8 _ (wrapU_nat x.d) _).2.2, (tk8 _ hx.cp _).1, (tk8 _ hx.cp _).2.2, (tk11 _ _ _).1, (tk11 _ _ _).2, (fl_be _ _).1, (fl_be _ _).2.2, (bl_be _ (by omega) _).1, (bl_be _ (by omega) _).2.2, hb, hr]
  exact ⟨rfl, rfl⟩
theorem r6_nil : r6 [] = [] ∧ f6 true [] = true := by
  refine ⟨?_, by simp [f6]⟩
  decide +kernel

/-- Where the torn list's reader stands. -/
def Torn6 (xs : List EvD) (k : Nat) (l : List UInt8) (f : Bool) : Prop :=
  (f = true ∧ l = []) ∨ (k < xs.length ∧ f = false ∧ l = (evsB (xs.drop k)).dropLast)
theorem Torn6.next {xs : List EvD} (hok : ∀ x ∈ xs, EvOk x ∧ x.nt.size ≤ 300 ∧ x.cr.size ≤ 300) {k : Nat} {l : List UInt8} {f : Bool} (h : Torn6 xs k l f) : Torn6 xs (k + 1) (r6 l) (f6 f l) := by
  rcases h with ⟨rfl, rfl⟩ | ⟨hk, rfl, rfl⟩
  · exact .inl ⟨r6_nil.2, r6_nil.1⟩
  · obtain ⟨hx, hn, hc⟩ := hok xs[k] (List.getElem_mem hk)
    have hd : xs.drop k = xs[k] :: xs.drop (k + 1) := List.drop_eq_getElem_cons hk
    rw [hd]
    simp only [evsB]
    by_cases h1 : k + 1 < xs.length
    · have hne : evsB (xs.drop (k + 1)) ≠ [] := by
        rw [List.drop_eq_getElem_cons h1]
        simp [evsB, evB_ne]
      rw [List.dropLast_append_of_ne_nil hne]
      obtain ⟨h2, h3⟩ := r6_ev xs[k] hx hn hc (evsB (xs.drop (k + 1))).dropLast
      exact .inr ⟨h1, h3, h2⟩
    · have h2 : xs.drop (k + 1) = [] := List.drop_eq_nil_of_le (by omega)
      rw [h2]
      simp only [evsB, List.append_nil]
      obtain ⟨h3, h4⟩ := r6_less xs[k] hx hn hc
      exact .inl ⟨h4, h3⟩
theorem Torn6.done {xs : List EvD} {l : List UInt8} {f : Bool} (h : Torn6 xs xs.length l f) : f = true ∧ l = [] := by
  rcases h with h | ⟨h, _⟩
  · exact h
  · omega
end Go.Proofs.Ytmjkcjllpnpgpaa
