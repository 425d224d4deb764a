/- The law WireLists, walked. -/
import Derived.Test.YtmjkcjllpnpgpaaEvt
import Derived.Test.YtmjkcjllpnpgpaaKnown
import Derived.Deep.RegionHeld3
import Derived.Deep.QuietTactic
import Derived.BigQuiet
namespace Go.Proofs.Ytmjkcjllpnpgpaa
open Go.RowKit

/-- In block g, which is new since W, stands a writer that has put l; nothing that was there in W has turned. -/
def WA (W w : World) (g : Nat) (l : List UInt8) : Prop := ∃ v, WrS w g g v (some l) ∧ Fr (fun _ => False) W w ∧ W.heap.size ≤ g
theorem WA.drew {W w : World} {g : Nat} {l : List UInt8} (h : WA W w g l) : WA W w.drew g l := by
  obtain ⟨v, h1, h2, h3⟩ := h
  exact ⟨v, h1.keep (F := fun _ => False) (Fr.refl _ w).drew (fun _ _ => id), h2.trans (Fr.refl _ w).drew (fun _ _ => id), h3⟩
theorem Puts.wa {W w w' : World} {g : Nat} {v : Value} {l l' : List UInt8} {o : Option (List UInt8)} {e : Ending} (h0 : WrS w g g v (some l)) (hf : Fr (fun _ => False) W w) (hg : W.heap.size ≤ g) (hp : Puts w g g v o e w') (ho : o = some l') :
    e = .returned (.pointer (some ⟨g, 0, none⟩)) ∧ WA W w' g l' := by
  subst ho
  obtain ⟨he, v', hw, hf', hv⟩ := hp
  exact ⟨he, v', hw, hf.trans hf' (fun i hi hk => by
    rcases hk with rfl | hk
    · omega
    · have := (h0.own.lt i hk).1; omega), hg⟩

theorem int_wa {W w : World} {g : Nat} {l : List UInt8} (h : WA W w g l) (n : Int) (hb : l.length ≤ 140737488000000) :
    Calls Try.prog 24 #[.pointer (some ⟨g, 0, none⟩), .int .i64 n] w fun e w' => e = .returned (.pointer (some ⟨g, 0, none⟩)) ∧ WA W w' g (l ++ be (IntKind.u64.wrap n).toNat 8) := by
  obtain ⟨v, h1, h2, h3⟩ := h
  exact (int_puts h1 n (by simp [roomS]; omega)).mono fun e w' hp => hp.wa h1 h2 h3 (by rw [putNum_8]; rfl)
theorem num_wa {W w : World} {g : Nat} {l : List UInt8} (h : WA W w g l) (n : Nat) (s : Nat) (hs : numOk n s = true) (hn : n ≤ 18446744073709551615) (hb : l.length ≤ 140737488000000) :
    Calls Try.prog 25 #[.pointer (some ⟨g, 0, none⟩), .int .u64 (n : Nat), .int .i64 (s : Nat)] w fun e w' => e = .returned (.pointer (some ⟨g, 0, none⟩)) ∧ WA W w' g (l ++ be n s) := by
  obtain ⟨v, h1, h2, h3⟩ := h
  exact (number_puts h1 n s hn (by simp [roomS]; omega)).mono fun e w' hp => hp.wa h1 h2 h3 (by simp [putNum, hs])
theorem num8_wa {W w : World} {g : Nat} {l : List UInt8} (h : WA W w g l) (n : Nat) (hn : n ≤ 18446744073709551615) (hb : l.length ≤ 140737488000000) :
    Calls Try.prog 25 #[.pointer (some ⟨g, 0, none⟩), .int .u64 (n : Nat), .int .i64 8] w fun e w' => e = .returned (.pointer (some ⟨g, 0, none⟩)) ∧ WA W w' g (l ++ be n 8) := num_wa h n 8 rfl hn hb
theorem num1_wa {W w : World} {g : Nat} {l : List UInt8} (h : WA W w g l) (n : Nat) (hn : n ≤ 255) (hb : l.length ≤ 140737488000000) :
    Calls Try.prog 25 #[.pointer (some ⟨g, 0, none⟩), .int .u64 (n : Nat), .int .i64 1] w fun e w' => e = .returned (.pointer (some ⟨g, 0, none⟩)) ∧ WA W w' g (l ++ be n 1) := num_wa h n 1 (by simp [numOk]; omega) (by omega) hb
theorem flag_wa {W w : World} {g : Nat} {l : List UInt8} (h : WA W w g l) (b : Bool) (hb : l.length ≤ 140737488000000) :
    Calls Try.prog 26 #[.pointer (some ⟨g, 0, none⟩), .bool b] w fun e w' => e = .returned (.pointer (some ⟨g, 0, none⟩)) ∧ WA W w' g (l ++ be (if b then 1 else 0) 1) := by
  obtain ⟨v, h1, h2, h3⟩ := h
  exact (flag_puts h1 b (by simp [roomS]; omega)).mono fun e w' hp => hp.wa h1 h2 h3 (by cases b <;> simp [putNum, numOk])
theorem text_wa {W w : World} {g : Nat} {l : List UInt8} (h : WA W w g l) (s : ByteArray) (hs : s.size ≤ 300) (hb : l.length ≤ 140737488000000) :
    Calls Try.prog 27 #[.pointer (some ⟨g, 0, none⟩), .string s] w fun e w' => e = .returned (.pointer (some ⟨g, 0, none⟩)) ∧ WA W w' g (l ++ blobB s) := by
  obtain ⟨v, h1, h2, h3⟩ := h
  exact (text_puts h1 s (by omega) (by simp [roomS]; omega)).mono fun e w' hp => hp.wa h1 h2 h3 (by simp [putBlob, blobB])
theorem count_wa {W w : World} {g : Nat} {l : List UInt8} (h : WA W w g l) (n : Nat) (hn : n ≤ 40) (hb : l.length ≤ 140737488000000) :
    Calls Try.prog 23 #[.pointer (some ⟨g, 0, none⟩), .int .i64 (n : Nat)] w fun e w' => e = .returned (.pointer (some ⟨g, 0, none⟩)) ∧ WA W w' g (l ++ be n 2) := by
  obtain ⟨v, h1, h2, h3⟩ := h
  have e : (IntKind.u64.wrap (n : Int)).toNat = n := by rw [wrapU]; omega
  exact (count_puts h1 n (by simp [roomS]; omega)).mono fun e' w' hp => hp.wa h1 h2 h3 (by rw [e]; simp [putNum, numOk]; omega)

theorem WA.new (w : World) : WA w (w.alloc (.cells #[.slice none 0 0, .bool false] 28)) w.heap.size [] :=
  ⟨_, WrS.new w, (Fr.refl _ w).alloc _, Nat.le_refl _⟩
theorem cell_fr {w w' : World} {p : Addr} {u : Value} (h : w.cell? p = some u) (f : Fr (fun _ => False) w w') : w'.cell? p = some u :=
  (f.cell (World.block_lt_of_cell? w _ h) id).trans h
theorem WA.fr {W w : World} {g : Nat} {l : List UInt8} (h : WA W w g l) : Fr (fun _ => False) W w := by
  obtain ⟨_, _, h, _⟩ := h
  exact h
theorem WA.alike {W w : World} {g : Nat} {l l' : List UInt8} (h : WA W w g l) (e : l = l') : WA W w g l' := e ▸ h

theorem rint_is {w : World} {g : Nat} {l L : List UInt8} {m : Bool} {d : Int} (h : Rr w g l false m) (q : tkOk l 8 = true ∧ wrap64 ((tkNum l 8 : Nat) : Int) = d ∧ tkRest l 8 = L) :
    Calls Try.prog 29 #[.pointer (some ⟨g, 0, none⟩)] w fun e w' => e = .returned (.int .i64 d) ∧ Left w g L false m w' := by
  have hc := rint_any h
  rw [q.1, q.2.1, q.2.2] at hc
  exact hc
theorem rnum_is {w : World} {g : Nat} {l L : List UInt8} {m : Bool} {s : Int} {n : Nat} (h : Rr w g l false m) (q : tkOk l s = true ∧ tkNum l s = n ∧ tkRest l s = L) :
    Calls Try.prog 30 #[.pointer (some ⟨g, 0, none⟩), .int .i64 s] w fun e w' => e = .returned (.int .u64 (n : Nat)) ∧ Left w g L false m w' := by
  have hc := rnumber_any h s
  rw [q.1, q.2.1, q.2.2] at hc
  exact hc
theorem rflag_is {w : World} {g : Nat} {l L : List UInt8} {m b : Bool} (h : Rr w g l false m) (q : flOk l = true ∧ decide (tkNum l 1 = 1) = b ∧ flRest l = L) :
    Calls Try.prog 31 #[.pointer (some ⟨g, 0, none⟩)] w fun e w' => e = .returned (.bool b) ∧ Left w g L false m w' := by
  have hc := rflag_any h
  rw [q.1, q.2.1, q.2.2] at hc
  exact hc
theorem rtext_is {w : World} {g : Nat} {l L : List UInt8} {m : Bool} {z : ByteArray} (h : Rr w g l false m) (q : blOk l = true ∧ blGot l = z.data.toList ∧ blRest l = L) :
    Calls Try.prog 32 #[.pointer (some ⟨g, 0, none⟩)] w fun e w' => e = .returned (.string z) ∧ Left w g L false m w' := by
  have hc := rtext_any h
  rw [q.1, q.2.1, q.2.2] at hc
  have e : (⟨z.data.toList.toArray⟩ : ByteArray) = z := by cases z; simp
  rw [e] at hc
  exact hc
theorem wrap64_back (d : Int) (h0 : -9223372036854775808 ≤ d) (h1 : d ≤ 9223372036854775807) : wrap64 (((IntKind.u64.wrap d).toNat : Nat) : Int) = d := by
  rw [wrapU]
  unfold wrap64
  omega
/-- What is taken off an event's bytes, step by step. -/
theorem ev_takes (x : EvD) (hx : EvOk x) (hn : x.nt.size ≤ 300) (hc : x.cr.size ≤ 300) (T : List UInt8) : ∃ L1 L2 L3 L4 L5 L6, (tkOk (evB x ++ T) 8 = true ∧ wrap64 ((tkNum (evB x ++ T) 8 : Nat) : Int) = x.d ∧ tkRest (evB x ++ T) 8 = L1) ∧
    (tkOk L1 8 = true ∧ tkNum L1 8 = x.cp ∧ tkRest L1 8 = L2) ∧ (tkOk L2 1 = true ∧ tkNum L2 1 = x.fr ∧ tkRest L2 1 = L3) ∧ (tkOk L3 1 = true ∧ tkNum L3 1 = x.to ∧ tkRest L3 1 = L4) ∧
    (flOk L4 = true ∧ decide (tkNum L4 1 = 1) = x.lv ∧ flRest L4 = L5) ∧ (blOk L5 = true ∧ blGot L5 = x.nt.data.toList ∧ blRest L5 = L6) ∧ (blOk L6 = true ∧ blGot L6 = x.cr.data.toList ∧ blRest L6 = T) ∧ 3 ≤ L4.length ∧ 3 ≤ L5.length ∧ 3 ≤ L6.length := by
  have e : evB x ++ T = be (IntKind.u64.wrap x.d).toNat 8 ++ (be x.cp 8 ++ (be x.fr 1 ++ (be x.to 1 ++ (be (if x.lv then 1 else 0) 1 ++ (blobB x.nt ++ (blobB x.cr ++ T)))))) := by simp [evB]
  rw [e]
  obtain ⟨a1, a2, a3⟩ := tk8 _ (wrapU_nat x.d) (be x.cp 8 ++ (be x.fr 1 ++ (be x.to 1 ++ (be (if x.lv then 1 else 0) 1 ++ (blobB x.nt ++ (blobB x.cr ++ T))))))
  exact ⟨_, _, _, _, _, _, ⟨a1, by rw [a2]; exact wrap64_back x.d hx.d0 hx.d1, a3⟩, tk8 _ hx.cp _, tk1 _ hx.fr _, tk1 _ hx.to _, fl_be _ _, bl_be _ (by omega) _, bl_be _ (by omega) _, by simp only [List.length_append, be_len, blobB_len]; omega, by simp only [List.length_append, blobB_len]; omega, by simp only [List.length_append, blobB_len]; omega⟩

def evV (x : EvD) : Value := .agg #[.int .i64 x.d, .int .u64 (x.cp : Nat), .int .u8 (x.fr : Nat), .int .u8 (x.to : Nat), .bool x.lv, .string x.nt, .string x.cr]
theorem ev_neq (x : EvD) (w : World) : (binOp .neq 53 (.agg #[.int .i64 x.d, .int .u64 (x.cp : Nat), .int .u8 (x.fr : Nat), .int .u8 (x.to : Nat), .bool x.lv, .string x.nt, .string x.cr]) (.agg #[.int .i64 x.d, .int .u64 (x.cp : Nat), .int .u8 (x.fr : Nat), .int .u8 (x.to : Nat), .bool x.lv, .string x.nt, .string x.cr])).run Try.prog w = .ok (.bool false) w := by
  go_simp
/-- Seven cells, of which never three on end are bytes. -/
def EvCs (cs : Array Value) : Prop := cs.size = 7 ∧ (∃ z, cs[1]? = some (.int .u64 z)) ∧ ∃ b, cs[4]? = some (.bool b)
/-- A reader that has nothing left, or three bytes and more, reads none of such cells. -/
theorem Rr.apart {w : World} {g B : Nat} {l : List UInt8} {f m : Bool} {t : TypeId} {cs : Array Value} (h : Rr w g l f m) (hb : Blk w B t cs) (hcs : EvCs cs) (hne : B ≠ g) (hl : l.length = 0 ∨ 3 ≤ l.length) (i : Nat) (u : Value) :
    Rr (w.setCell ⟨B, i, none⟩ u) g l f m := by
  have hf : Fr (fun k => k = B) w (w.setCell ⟨B, i, none⟩ u) := (Fr.refl (fun k => k = B) w).setCell (p := ⟨B, i, none⟩) (.inl rfl) _
  obtain ⟨A, n, c, hg, hr, hnc, hc, hA, hn⟩ := h
  refine ⟨A, n, c, hg.keep hf (fun e => hne e.symm), hr.keep0 hf (fun h0 ad e hk => ?_), hnc, hc, hA, fun ad e => ⟨(hn ad e).1, Nat.lt_of_lt_of_le (hn ad e).2 hf.size⟩⟩
  obtain rfl := hr.len
  have hsp : ad.spot = none := by
    obtain ⟨ad', ch, e', _, hcell⟩ := hr.at_ h0
    obtain rfl : ad = ad' := by rw [e] at e'; injection e'
    have e0 : ad.add 0 = ad := by simp [Addr.add]
    rw [e0] at hcell
    rw [plain_addr hcell]
  obtain ⟨b, off, sp⟩ := ad
  have hsp' : sp = none := hsp
  subst hsp'
  have hk' : b = B := hk
  subst hk'
  have hat : ∀ j, j < l.length → ∃ z, cs[off + j]? = some (.int .u8 z) := fun j hj => by
    obtain ⟨ad', ch, e', _, hcell⟩ := hr.at_ hj
    obtain rfl : (⟨b, off, none⟩ : Addr) = ad' := by rw [e] at e'; injection e'
    rw [add_plain, hb.cell] at hcell
    exact ⟨_, hcell⟩
  obtain ⟨hsz, ⟨z1, h1⟩, ⟨b4, h4⟩⟩ := hcs
  obtain ⟨x0, g0⟩ := hat 0 (by omega)
  obtain ⟨x1, g1⟩ := hat 1 (by omega)
  obtain ⟨x2, g2⟩ := hat 2 (by omega)
  have hlt : off + 2 < 7 := by
    rw [← hsz]
    rcases Nat.lt_or_ge (off + 2) cs.size with q | q
    · exact q
    · rw [Array.getElem?_eq_none q] at g2; cases g2
  have ho : off = 0 ∨ off = 1 ∨ off = 2 ∨ off = 3 ∨ off = 4 := by omega
  rcases ho with o | o | o | o | o <;> rw [o] at g0 g1 g2
  · rw [h1] at g1; cases g1
  · rw [h1] at g0; cases g0
  · rw [h4] at g2; cases g2
  · rw [h4] at g1; cases g1
  · rw [h4] at g0; cases g0
/-- A reader in block g; in block B, that is new since w0, an event's cells. -/
def RX (w0 w : World) (g B : Nat) (l : List UInt8) (cs : Array Value) : Prop := Rr w g l false true ∧ Blk w B 53 cs ∧ Fr (fun k => k = g) w0 w ∧ w0.heap.size ≤ B ∧ B ≠ g
theorem RX.start {w0 w' : World} {g : Nat} {l L : List UInt8} {cs : Array Value} (h : Rr w0 g l false true) (k : Left (w0.alloc (.cells cs 53)) g L false true w') : RX w0 w' g w0.heap.size L cs := by
  have hg := h.lt
  exact ⟨k.1, (Blk.new w0 _ cs).keep k.2 (by omega), ((Fr.refl _ w0).alloc _).trans k.2 (fun _ _ q => q), Nat.le_refl _, by omega⟩
theorem RX.left {w0 w w' : World} {g B : Nat} {l L : List UInt8} {cs : Array Value} (h : RX w0 w g B l cs) (k : Left w g L false true w') : RX w0 w' g B L cs := by
  obtain ⟨h1, h2, h3, h4, h5⟩ := h
  exact ⟨k.1, h2.keep k.2 h5, h3.trans k.2 (fun _ _ q => q), h4, h5⟩
theorem RX.set {w0 w : World} {g B : Nat} {l : List UInt8} {cs : Array Value} (h : RX w0 w g B l cs) (hcs : EvCs cs) (hl : l.length = 0 ∨ 3 ≤ l.length) (i : Nat) (u : Value) : RX w0 (w.setCell ⟨B, i, none⟩ u) g B l (cs.setIfInBounds i u) := by
  obtain ⟨h1, h2, h3, h4, h5⟩ := h
  have hf : Fr (fun k => k = B) w (w.setCell ⟨B, i, none⟩ u) := (Fr.refl (fun k => k = B) w).setCell (p := ⟨B, i, none⟩) (.inl rfl) _
  exact ⟨h1.apart h2 hcs h5 hl i u, h2.set_ i u, h3.trans hf (fun k hk q => by omega), h4, h5⟩

/-- The list less its last byte: its count is told where there is an event. -/
theorem torn_start (xs : List EvD) (hl : xs.length ≤ 40) {b : List UInt8} (hb : b = be xs.length 2 ++ evsB xs) :
    tkNum (b.take (b.length - 1)) 2 = xs.length ∧ Torn6 xs 0 (tkRest (b.take (b.length - 1)) 2) (false || !tkOk (b.take (b.length - 1)) 2) := by
  rw [← List.dropLast_eq_take]
  cases xs with
  | nil =>
    have h0 : tkOk b.dropLast 2 = false := by
      rw [hb]; simp [evsB, tkOk, be_len]
    refine ⟨?_, .inl ⟨?_, ?_⟩⟩
    · simp [tkNum, h0]
    · simp [h0]
    · simp [tkRest, h0]
  | cons x r =>
    have hne : evsB (x :: r) ≠ [] := by simp [evsB, evB_ne]
    obtain ⟨h1, h2, h3⟩ := tk2 (x :: r).length (by omega) (evsB (x :: r)).dropLast
    rw [hb, List.dropLast_append_of_ne_nil hne, h1, h2, h3]
    exact ⟨rfl, .inr ⟨by simp, rfl, rfl⟩⟩

/-- Are an event's texts short? -/
def Short (xs : List EvD) : Prop := ∀ x ∈ xs, x.nt.size ≤ 300 ∧ x.cr.size ≤ 300

set_option maxHeartbeats 4000000 in
set_option maxRecDepth 100000 in
theorem lists_any {w : World} {L : Option Addr} {xs : List EvD} {cap : Nat} (h : EvsO w L xs) (hl : xs.length ≤ maxLen) :
    Calls Try.prog 5 #[.slice L xs.length cap] w fun e w' => e = .returned (.bool true) ∧ Below w.heap.size w w' := by
  unfold maxLen at hl
  by_cases h40 : 40 < xs.length
  · clear h
    go_enter Try.func5, Try.ntmps5
    go_wp2_with fail
    refine (known_any _).mono ?_
    rintro e w1 ⟨rfl, hf⟩
    go_wp2
    go_ret
    exact ⟨rfl, hf.below (Nat.le_refl _) (fun _ _ => id)⟩
  have hn : xs.length ≤ 40 := by omega
  have H := Lib.hid h
  clear h hl h40
  have HC := Lib.hid (count_wa (WA.new w) xs.length hn (by simp))
  go_enter Try.func5, Try.ntmps5
  go_wp2_with fail
  (with_reducible refine HC.out.mono ?_)
  rintro e w1 ⟨rfl, hw1⟩
  have HW1 := Lib.hid hw1
  clear hw1
  go_wp2_with fail
  go_loopw [4] (fun i wr => ∃ (k : Nat), i = .int .i64 k ∧ k ≤ xs.length ∧ Short (xs.take k) ∧ WA w wr w.heap.size (be xs.length 2 ++ evsB (xs.take k))) (fun i _ => xs.length - (intOf i).toNat)
  case atStart => exact ⟨0, rfl, Nat.zero_le _, (fun x hx => by simp at hx), HW1.out.alike (by simp [evsB])⟩
  case round =>
    obtain ⟨k, rfl, hk, hs, hwa⟩ := hrel
    have HS := Lib.hid hs
    have HW := Lib.hid hwa
    clear hs hwa
    by_cases hlt : k < xs.length
    · obtain ⟨blk, off, rfl, hok, h0, h1, h2, h3, h4, h5, h6⟩ := H.out k xs[k] (List.getElem?_eq_getElem hlt)
      have HOK := Lib.hid hok
      clear hok
      have HT : Hid (xs.take (k + 1) = xs.take k ++ [xs[k]]) := Lib.hid (List.take_succ_eq_append_getElem hlt)
      generalize xs[k] = x at *
      have e0 := cell_fr h0 HW.out.fr
      have e1 := cell_fr h1 HW.out.fr
      have e2 := cell_fr h2 HW.out.fr
      have e3 := cell_fr h3 HW.out.fr
      have e4 := cell_fr h4 HW.out.fr
      have e5 := cell_fr h5 HW.out.fr
      have e6 := cell_fr h6 HW.out.fr
      have H06 := Lib.hid (And.intro h0 (And.intro h1 (And.intro h2 (And.intro h3 (And.intro h4 (And.intro h5 h6))))))
      clear h0 h1 h2 h3 h4 h5 h6
      have hi0 : (0 : Int) ≤ (k : Int) := Int.natCast_nonneg _
      have hi1 : (k : Int) < (xs.length : Int) := by omega
      by_cases hsh : x.nt.size ≤ 300 ∧ x.cr.size ≤ 300
      · obtain ⟨hs1, hs2⟩ := hsh
        have hwr1 : IntKind.u64.wrap (x.fr : Int) = (x.fr : Int) := by rw [wrapU]; have := HOK.out.fr; omega
        have hwr2 : IntKind.u64.wrap (x.to : Int) = (x.to : Int) := by rw [wrapU]; have := HOK.out.to; omega
        have HL : Hid ((be xs.length 2 ++ evsB (xs.take k)).length ≤ 30000) := Lib.hid (by
          have := evsB_len (xs.take k) HS.out
          rw [List.length_take] at this
          rw [List.length_append, be_len]
          omega)
        have hW := HW.out.drew
        generalize hLL : be xs.length 2 ++ evsB (xs.take k) = l at *
        have HLL := Lib.hid hLL
        clear hLL
        go_wp2_with fail
        go_region_held3 (fun w' => w'.cell? ⟨blk, off + k * 7, none⟩ = some (.int .i64 x.d) ∧ w'.cell? ⟨blk, off + k * 7 + 1, none⟩ = some (.int .u64 (x.cp : Nat)) ∧ w'.cell? ⟨blk, off + k * 7 + 2, none⟩ = some (.int .u8 (x.fr : Nat)) ∧
            w'.cell? ⟨blk, off + k * 7 + 3, none⟩ = some (.int .u8 (x.to : Nat)) ∧ w'.cell? ⟨blk, off + k * 7 + 4, none⟩ = some (.bool x.lv) ∧ w'.cell? ⟨blk, off + k * 7 + 5, none⟩ = some (.string x.nt) ∧ w'.cell? ⟨blk, off + k * 7 + 6, none⟩ = some (.string x.cr))
          (first
            | go_keep
            | (exact ⟨cell_fr H06.out.1 hW.fr, cell_fr H06.out.2.1 hW.fr, cell_fr H06.out.2.2.1 hW.fr, cell_fr H06.out.2.2.2.1 hW.fr, cell_fr H06.out.2.2.2.2.1 hW.fr, cell_fr H06.out.2.2.2.2.2.1 hW.fr, cell_fr H06.out.2.2.2.2.2.2 hW.fr⟩))
          ((first
            | (go_at_call 26; (with_reducible refine (flag_wa hW _ (by (try simp only [List.length_append, be_len, blobB_len]); have := HL.out; omega)).mono ?_); clear hW; rintro e w2 ⟨rfl, hW⟩)
            | (go_at_call 27; (with_reducible refine (text_wa hW _ (by assumption) (by (try simp only [List.length_append, be_len, blobB_len]); have := HL.out; omega)).mono ?_); clear hW; rintro e w2 ⟨rfl, hW⟩)
            | (go_at_call 25; (with_reducible refine (num8_wa hW _ HOK.out.cp (by (try simp only [List.length_append, be_len, blobB_len]); have := HL.out; omega)).mono ?_); clear hW; rintro e w2 ⟨rfl, hW⟩)
            | (go_at_call 25; (with_reducible refine (num1_wa hW x.fr HOK.out.fr (by (try simp only [List.length_append, be_len, blobB_len]); have := HL.out; omega)).mono ?_); clear hW; rintro e w2 ⟨rfl, hW⟩)
            | (go_at_call 25; (with_reducible refine (num1_wa hW x.to HOK.out.to (by (try simp only [List.length_append, be_len, blobB_len]); have := HL.out; omega)).mono ?_); clear hW; rintro e w2 ⟨rfl, hW⟩)
            | (go_at_call 24; (with_reducible refine (int_wa hW _ (by (try simp only [List.length_append, be_len, blobB_len]); have := HL.out; omega)).mono ?_); clear hW; rintro e w2 ⟨rfl, hW⟩)))
        clear hi0 hi1 hwr1 hwr2
        go_wp2_with fail
        exact ⟨⟨k + 1, by go_num, by omega, (fun y hy => by
          rw [HT.out] at hy
          rcases List.mem_append.1 hy with q | q
          · exact HS.out y q
          · rw [List.mem_singleton.1 q]; exact ⟨hs1, hs2⟩), hW.alike (by rw [HT.out, evsB_snoc, ← HLL.out]; simp [evB, List.append_assoc])⟩, by simp [intOf]; omega⟩
      · have hlong : ¬ (x.nt.size ≤ 300) ∨ ¬ (x.cr.size ≤ 300) := by omega
        by_cases hl1 : 300 < x.nt.size
        · clear hlong hsh e6
          go_wp2_with fail
          refine (known_any _).mono ?_
          rintro e w5 ⟨rfl, f5⟩
          have HK := Lib.hid f5
          clear f5
          go_wp2
          go_ret
          exact ⟨rfl, (HW.out.fr.trans HK.out (fun _ _ => id)).below (Nat.le_refl _) (fun _ _ => id)⟩
        · have hl2 : 300 < x.cr.size := by omega
          clear hlong hsh
          go_wp2_with fail
          refine (known_any _).mono ?_
          rintro e w5 ⟨rfl, f5⟩
          have HK := Lib.hid f5
          clear f5
          go_wp2
          go_ret
          exact ⟨rfl, (HW.out.fr.trans HK.out (fun _ _ => id)).below (Nat.le_refl _) (fun _ _ => id)⟩
    · obtain rfl : k = xs.length := by omega
      rw [List.take_length] at HS HW
      clear hlt
      obtain ⟨v, hwv⟩ := HW.out
      have hlb := evsB_len xs HS.out
      obtain ⟨b, hb⟩ : ∃ b, b = be xs.length 2 ++ evsB xs := ⟨_, rfl⟩
      rw [← hb] at HW hwv
      have hb2 : 2 ≤ b.length := by rw [hb, List.length_append, be_len]; omega
      have hb3 : b.length ≤ 30000 := by rw [hb, List.length_append, be_len]; omega
      have HB := Lib.hid hb
      have HEND := Lib.hid (end_any hwv.1 (by omega))
      have HV := Lib.hid hwv
      clear hlb hb hwv
      go_wp2_with fail
      (with_reducible refine HEND.out.mono ?_)
      rintro e w2 ⟨x2, rfl, hm⟩
      obtain ⟨A2, c2, rfl, hA2, hc2, hcm2, hr2⟩ := own_rd hm.1
      have HR2 := Lib.hid hr2
      have HF2 := Lib.hid (HW.out.fr.trans hm.2 (fun _ _ => id))
      have HA2 := Lib.hid (And.intro hA2 hc2)
      have HRD := Lib.hid (read_any (w := w2) hr2 hA2 (by omega))
      clear hm hr2 hcm2 hA2 hc2
      go_wp2_with fail
      (with_reducible refine HRD.out.mono ?_)
      rintro e w3 ⟨g, rfl, hrr, hf3, hg⟩
      have hcnt : tkOk b 2 = true ∧ tkNum b 2 = xs.length ∧ tkRest b 2 = evsB xs := by
        rw [HB.out]
        exact tk2 xs.length (by omega) _
      have hct := rcount_any hrr
      rw [hcnt.1, hcnt.2.1, hcnt.2.2] at hct
      have HCT := Lib.hid hct
      have HF3 := Lib.hid (And.intro hf3 hg)
      clear hct hcnt hrr hf3 hg
      go_wp2_with fail
      (with_reducible refine HCT.out.mono ?_)
      rintro e w4 ⟨rfl, hleft⟩
      have HL4 := Lib.hid hleft
      clear hleft
      go_wp2_with fail
      go_loopw [8] (fun i wr => ∃ (k : Nat), i = .int .i64 k ∧ k ≤ xs.length ∧ Rr wr g (evsB (xs.drop k)) false true ∧ Fr (fun _ => False) w2 wr) (fun i _ => xs.length - (intOf i).toNat)
      case atStart => exact ⟨0, rfl, Nat.zero_le _, HL4.out.1, HF3.out.1.trans HL4.out.2 (fun i hi q => by have := HF3.out.2; omega)⟩
      case round =>
        obtain ⟨k, rfl, hk, hrr, hfr⟩ := hrel
        have HF := Lib.hid hfr
        by_cases hlt : k < xs.length
        · obtain ⟨blk, off, rfl, hok, h0, h1, h2, h3, h4, h5, h6⟩ := H.out k xs[k] (List.getElem?_eq_getElem hlt)
          have hsh := HS.out xs[k] (List.getElem_mem hlt)
          have hd : evsB (xs.drop k) = evB xs[k] ++ evsB (xs.drop (k + 1)) := by rw [List.drop_eq_getElem_cons hlt]; rfl
          rw [hd] at hrr
          have hT3 : (evsB (xs.drop (k + 1))).length = 0 ∨ 3 ≤ (evsB (xs.drop (k + 1))).length := by
            cases xs.drop (k + 1) with
            | nil => exact .inl rfl
            | cons y r => right; simp only [evsB, List.length_append, evB_len]; omega
          have HT3 := Lib.hid hT3
          clear hT3
          generalize xs[k] = x at *
          generalize hT : evsB (xs.drop (k + 1)) = T at *
          have HTT := Lib.hid hT
          clear hT
          have e0 := cell_fr (cell_fr h0 HF2.out) HF.out
          have e1 := cell_fr (cell_fr h1 HF2.out) HF.out
          have e2 := cell_fr (cell_fr h2 HF2.out) HF.out
          have e3 := cell_fr (cell_fr h3 HF2.out) HF.out
          have e4 := cell_fr (cell_fr h4 HF2.out) HF.out
          have e5 := cell_fr (cell_fr h5 HF2.out) HF.out
          have e6 := cell_fr (cell_fr h6 HF2.out) HF.out
          have hbl : blk < w.heap.size := World.block_lt_of_cell? w _ h0
          have hev : EvAt wr blk (off + k * 7) x := ⟨e0, e1, e2, e3, e4, e5, e6⟩
          have HEV := Lib.hid (And.intro hev hbl)
          obtain ⟨L1, L2, L3, L4, L5, L6, q1, q2, q3, q4, q5, q6, q7, n4, n5, n6⟩ := ev_takes x hok hsh.1 hsh.2 T
          have hi0 : (0 : Int) ≤ (k : Int) := Int.natCast_nonneg _
          have hi1 : (k : Int) < (xs.length : Int) := by omega
          have hwr1 : IntKind.u8.wrap (x.fr : Int) = (x.fr : Int) := by have := hok.fr; simp [IntKind.wrap, IntKind.signed, IntKind.bits]; omega
          have hwr2 : IntKind.u8.wrap (x.to : Int) = (x.to : Int) := by have := hok.to; simp [IntKind.wrap, IntKind.signed, IntKind.bits]; omega
          have HR0 := Lib.hid hrr
          clear hd h0 h1 h2 h3 h4 h5 h6 e0 e1 e2 e3 e4 e5 e6 hev hbl hrr hfr
          have Q := Lib.hid (And.intro q1 (And.intro q2 (And.intro q3 (And.intro q4 (And.intro q5 (And.intro q6 (And.intro q7 (And.intro n4 (And.intro n5 n6)))))))))
          clear q1 q2 q3 q4 q5 q6 q7 n4 n5 n6
          go_wp2_with fail
          refine (rint_is HR0.out Q.out.1).mono ?_
          rintro e u1 ⟨rfl, hz⟩
          have Z1 := Lib.hid hz
          clear hz
          go_wp2_with fail
          refine (rnum_is Z1.out.1 Q.out.2.1).mono ?_
          rintro e u2 ⟨rfl, hz⟩
          have Z2 := Lib.hid (Z1.out.then_ hz)
          clear hz
          go_wp2_with fail
          refine (rnum_is (Z2.out.1.keep (F := fun _ => False) ((Fr.refl _ _).alloc _) (fun _ q => q.elim)) Q.out.2.2.1).mono ?_
          rintro e u3 ⟨rfl, hz⟩
          have Z3 := Lib.hid (RX.start Z2.out.1 hz)
          clear hz
          go_wp2_with fail
          refine (rnum_is Z3.out.1 Q.out.2.2.2.1).mono ?_
          rintro e u4 ⟨rfl, hz⟩
          have Z4 := Lib.hid (Z3.out.left hz)
          clear hz
          have c2 := Z4.out.2.1.cell 2
          have c3 := Z4.out.2.1.cell 3
          have f2 := Z4.out.2.1.frozen 2
          have f3 := Z4.out.2.1.frozen 3
          simp at c2 c3
          go_wp2_with fail
          clear c2 c3 f2 f3
          have Z5 := Lib.hid ((Z4.out.set ⟨rfl, ⟨_, rfl⟩, ⟨_, rfl⟩⟩ (.inr Q.out.2.2.2.2.2.2.2.1) 2 (.int .u8 (x.fr : Nat))).set ⟨rfl, ⟨_, rfl⟩, ⟨_, rfl⟩⟩ (.inr Q.out.2.2.2.2.2.2.2.1) 3 (.int .u8 (x.to : Nat)))
          refine (rflag_is Z5.out.1 Q.out.2.2.2.2.1).mono ?_
          rintro e u5 ⟨rfl, hz⟩
          have Z6 := Lib.hid (Z5.out.left hz)
          clear hz
          have c4 := Z6.out.2.1.cell 4
          have f4 := Z6.out.2.1.frozen 4
          simp at c4
          go_wp2_with fail
          clear c4 f4
          have Z7 := Lib.hid (Z6.out.set ⟨rfl, ⟨_, rfl⟩, ⟨_, rfl⟩⟩ (.inr Q.out.2.2.2.2.2.2.2.2.1) 4 (.bool x.lv))
          refine (rtext_is Z7.out.1 Q.out.2.2.2.2.2.1).mono ?_
          rintro e u6 ⟨rfl, hz⟩
          have Z8 := Lib.hid (Z7.out.left hz)
          clear hz
          have c5 := Z8.out.2.1.cell 5
          have f5 := Z8.out.2.1.frozen 5
          simp at c5
          go_wp2_with fail
          clear c5 f5
          have Z9 := Lib.hid (Z8.out.set ⟨rfl, ⟨_, rfl⟩, ⟨_, rfl⟩⟩ (.inr Q.out.2.2.2.2.2.2.2.2.2) 5 (.string x.nt))
          refine (rtext_is Z9.out.1 Q.out.2.2.2.2.2.2.1).mono ?_
          rintro e u7 ⟨rfl, hz⟩
          have Za := Lib.hid (Z9.out.left hz)
          clear hz
          have c6 := Za.out.2.1.cell 6
          have f6 := Za.out.2.1.frozen 6
          simp at c6
          go_wp2_with fail
          clear c6 f6
          have Zb := Za.out.set ⟨rfl, ⟨_, rfl⟩, ⟨_, rfl⟩⟩ HT3.out 6 (.string x.cr)
          obtain ⟨W8, hW8⟩ : ∃ W, W = u7.setCell ⟨u2.heap.size, 6, none⟩ (.string x.cr) := ⟨_, rfl⟩
          rw [← hW8] at Zb ⊢
          clear hW8
          have d0 := Zb.2.1.cell 0
          have d1 := Zb.2.1.cell 1
          have d2 := Zb.2.1.cell 2
          have d3 := Zb.2.1.cell 3
          have d4 := Zb.2.1.cell 4
          have d5 := Zb.2.1.cell 5
          have d6 := Zb.2.1.cell 6
          simp at d0 d1 d2 d3 d4 d5 d6
          have hgw : w.heap.size ≤ g := by have := HF2.out.size; have := HF3.out.2; omega
          have hfr8 : Fr (fun k => k = g) wr W8 := Z2.out.2.trans Zb.2.2.1 (fun _ _ q => q)
          obtain ⟨e0, e1, e2, e3, e4, e5, e6⟩ := HEV.out.1.keep hfr8 (by have := HEV.out.2; omega)
          have ZB := Lib.hid (And.intro Zb (And.intro hfr8 hgw))
          clear Zb hfr8 hgw
          have hcmp := ev_neq x
          go_quiet (fail)
          clear hcmp d0 d1 d2 d3 d4 d5 d6 e0 e1 e2 e3 e4 e5 e6
          go_wp2_with fail
          exact ⟨⟨k + 1, by go_num, by omega, by rw [HTT.out]; exact ZB.out.1.1.keep (F := fun _ => False) ((Fr.refl _ _).drewN nq) (fun _ q => q.elim), (HF.out.trans ZB.out.2.1 (fun i hi q => by
            have h1 := HF3.out.2
            omega)).trans ((Fr.refl (fun _ => False) _).drewN nq) (fun _ _ => id)⟩, by simp [intOf]; omega⟩
        · obtain rfl : k = xs.length := by omega
          clear hlt
          rw [List.drop_length] at hrr
          have hend := rend_any hrr
          have HEN := Lib.hid hend
          have hsl := (slice_to (P := Try.prog) (t := 26) Try.underlying26 (fun w => by go_simp) (HR2.out.new HF.out) HA2.out.2 (b.length - 1) (by omega))
          have hcast : ((b.length - 1 : Nat) : Int) = (b.length : Int) - 1 := by omega
          have hs1 := hsl.1
          rw [hcast] at hs1
          have HS2 := Lib.hid hsl.2
          clear hend hsl hrr hcast
          go_wp2_with fail
          (with_reducible refine HEN.out.mono ?_)
          rintro e z1 ⟨rfl, rfl⟩
          have HRE := Lib.hid (read_any (w := wr) HS2.out HA2.out.1 (by omega))
          go_wp2_with fail
          (with_reducible refine HRE.out.mono ?_)
          rintro e z2 ⟨g', rfl, hr2, hf2, hg2⟩
          obtain ⟨ht1, ht2⟩ := torn_start xs hn HB.out
          have hct := rcount_any hr2
          rw [ht1] at hct
          have HCT2 := Lib.hid hct
          have HT2 := Lib.hid ht2
          have HF4 := Lib.hid (And.intro hf2 hg2)
          clear hct ht1 ht2 hr2 hf2 hg2
          generalize tkRest (b.take (b.length - 1)) 2 = l0 at *
          generalize (false || !tkOk (b.take (b.length - 1)) 2) = f0 at *
          go_wp2_with fail
          (with_reducible refine HCT2.out.mono ?_)
          rintro e z3 ⟨rfl, hz⟩
          have Z3 := Lib.hid hz
          have HFZ : Hid (Fr (fun _ => False) w z3) := Lib.hid (((HF2.out.trans HF.out (fun _ _ => id)).trans HF4.out.1 (fun _ _ => id)).trans hz.2 (fun i hi q => by
            have h1 := HF4.out.2
            have h2 := (HF2.out.trans HF.out (fun _ _ => id)).size
            omega))
          have hgz : w.heap.size ≤ g' := by
            have h1 := HF4.out.2
            have h2 := (HF2.out.trans HF.out (fun _ _ => id)).size
            omega
          have HGZ := Lib.hid hgz
          clear hz hgz
          go_wp2_with fail
          clear hs1
          generalize wr = wr0 at *
          go_loopw [12] (fun i wr => ∃ (k : Nat) (l : List UInt8) (f : Bool), i = .int .i64 k ∧ k ≤ xs.length ∧ Torn6 xs k l f ∧ Rr wr g' l f true ∧ Fr (fun _ => False) w wr) (fun i _ => xs.length - (intOf i).toNat)
          case atStart => exact ⟨0, l0, f0, rfl, Nat.zero_le _, HT2.out, Z3.out.1, HFZ.out⟩
          case round =>
            obtain ⟨k, l, f, rfl, hk, htn, hrr, hfr⟩ := hrel
            have HX := Lib.hid (And.intro htn (And.intro hrr hfr))
            clear htn hrr hfr
            by_cases hlt : k < xs.length
            · go_wp2_with fail
              refine (rint_any HX.out.2.1).mono ?_
              rintro e y1 ⟨rfl, hz⟩
              have Y1 := Lib.hid hz
              clear hz
              go_wp2_with fail
              refine (rnumber_any Y1.out.1 8).mono ?_
              rintro e y2 ⟨rfl, hz⟩
              have Y2 := Lib.hid (Y1.out.then_ hz)
              clear hz
              go_wp2_with fail
              refine (rnumber_any Y2.out.1 2).mono ?_
              rintro e y3 ⟨rfl, hz⟩
              have Y3 := Lib.hid (Y2.out.then_ hz)
              clear hz
              go_wp2_with fail
              refine (rflag_any Y3.out.1).mono ?_
              rintro e y4 ⟨rfl, hz⟩
              have Y4 := Lib.hid (Y3.out.then_ hz)
              clear hz
              go_wp2_with fail
              refine (rtext_any Y4.out.1).mono ?_
              rintro e y5 ⟨rfl, hz⟩
              have Y5 := Lib.hid (Y4.out.then_ hz)
              clear hz
              go_wp2_with fail
              refine (rtext_any Y5.out.1).mono ?_
              rintro e y6 ⟨rfl, hz⟩
              have Y6 := Lib.hid (Y5.out.then_ hz)
              clear hz
              go_wp2_with fail
              exact ⟨⟨k + 1, r6 l, f6 f l, by go_num, by omega, HX.out.1.next (fun x hx => by
                obtain ⟨i, hi, rfl⟩ := List.getElem_of_mem hx
                obtain ⟨_, _, _, hok, _⟩ := H.out i xs[i] (List.getElem?_eq_getElem hi)
                exact ⟨hok, HS.out _ hx⟩), Y6.out.1, HX.out.2.2.trans Y6.out.2 (fun i hi q => by have := HGZ.out; omega)⟩, by simp [intOf]; omega⟩
            · obtain rfl : k = xs.length := by omega
              clear hlt
              obtain ⟨hf, hl0⟩ := HX.out.1.done
              subst hf hl0
              go_wp2_with fail
              refine (rend_any HX.out.2.1).mono ?_
              rintro e y1 ⟨rfl, rfl⟩
              go_wp2_with fail
              refine (known_any _).mono ?_
              rintro e w5 ⟨rfl, f5⟩
              have HK := Lib.hid f5
              clear f5
              go_wp2
              go_ret
              exact ⟨rfl, (HX.out.2.2.trans HK.out (fun _ _ => id)).below (Nat.le_refl _) (fun _ _ => id)⟩
end Go.Proofs.Ytmjkcjllpnpgpaa
