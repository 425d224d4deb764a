/- Wa: laid together out of Law Rmn Row Lst. -/
import Derived.Test.YtjdbgojnpnlblaaGreatRows
import Derived.ProofKit
import Derived.OpenShut
import Derived.Deep.Slices
import Derived.Lib.SmallJoins
import Derived.Deep.RegionHeld3
import Derived.Deep.AppendLies
import Derived.Test.YtjdbgojnpnlblaaGreatW7
namespace Go.Proofs.YtjdbgojnpnlblaaGreat
open Go.ChangeShapes Go.WideShapes Go.ChangeAt Go.RowKit

set_option maxRecDepth 100000 in
theorem own : ownKnob Tryz.prog.godebug = none := by kernel_rfl
set_option maxRecDepth 100000 in
theorem laidOut : laidOutB Tryz.prog = true := by kernel_rfl

section
variable {H : Type} {enc : TypeId × Value → H} {P : Program}

set_option maxRecDepth 100000 in
/-- Arguments read behind the call as they did. -/
theorem args_stay {W W' : World} (hl : laidOutB P = true) (hb : Below W.heap.size W W') {sp : Nat → Bool} : ∀ {ts : List TypeId} {vs : List Value} {ds : List (DataW H)} {ps : List MemPlace},
    (∀ t ∈ ts, P.readableRec t = true ∧ t < P.types.size) → DataW.TrodAll enc P W 0 (fun _ => true) true ts vs ds ps → (∀ x ∈ ps, x.block < W.heap.size) → (∀ x ∈ ps, sp x.block = true) →
    DataW.TrodAll enc P W' 0 sp true ts vs ds ps
  | [], vs, ds, ps, _, h, _, _ => by
    obtain ⟨rfl, rfl, rfl⟩ := trodAll_nil h
    exact trodAll_mk0
  | t :: ts, vs, ds, ps, ht, h, hlt, hsp => by
    obtain ⟨v, vs', d, ds', p, q, rfl, rfl, rfl, h1, h2⟩ := trodAll_cons h
    have ht0 := ht t (by simp)
    exact trodAll_cons_mk (WideElems.Trod_stays hl ht0.1 ht0.2 h1 (fun x hx => hb.same (hlt x (by simp [hx]))) (fun x hx => hsp x (by simp [hx])))
      (args_stay hl hb (fun t' h' => ht t' (by simp [h'])) h2 (fun x hx => hlt x (by simp [hx])) (fun x hx => hsp x (by simp [hx])))

set_option maxRecDepth 100000 in
/-- A law's end. -/
theorem law_post {f : Func} {s : ChangeSpec} {tb : TypeId} {W W' : World} {args : Array Value} {ds gs : List (DataW H)} {before : List MemPlace}
    (hl : laidOutB P = true) (hvars : s.vars = []) (hpar0 : f.params.toList.all (fun t => P.readableRec t && decide (t < P.types.size)) = true) (hr : f.resultTypes = #[tb]) (hbool : P.underlying tb = some .bool)
    (hW : DataW.Whole enc P f.params.toList s.vars false W args.toList ds gs before) (hfn : s.fn H ds = { results := [.lit (.bool true)], args := ds }) (hb : Below W.heap.size W W') :
    s.post enc P f false true false false W args (.bool true) W' := by
  have hlt : ∀ x ∈ before, x.block < W.heap.size := fun x hx => hW.lt x hx
  have hpar : ∀ t ∈ f.params.toList, P.readableRec t = true ∧ t < P.types.size := fun t ht => by
    have := List.all_eq_true.1 hpar0 t ht
    simpa using this
  obtain ⟨p, q, hA, hV, hp, hfz, hnd⟩ := hW
  have hV' := hV
  rw [hvars] at hV'
  obtain ⟨rfl, rfl⟩ := trodVars_none hV'
  have hpp : before = p := by rw [hp, List.append_nil]
  subst hpp
  have hds : ds ++ [] = ds := List.append_nil ds
  refine ⟨ds, [], before, [], before, [], ⟨before, [], hA, hV, hp, hfz, hnd⟩, ?_, ?_, ?_, World.keptBut_mono (fun x hx => ⟨hx, .inr (.inl hx)⟩) (hb.frame (· ∈ before)), fun h => by cases h⟩
  · rw [hds, hfn, hr]
    exact trodAll_cons_mk (shut_bool hbool _) trodAll_mk0
  · rw [hds, hfn]
    exact args_stay hl hb hpar hA hlt (fun x hx => by simpa using hlt x hx)
  · rw [hds, hfn, hvars]
    exact rfl
end
end Go.Proofs.YtjdbgojnpnlblaaGreat

namespace Go.Proofs.YtjdbgojnpnlblaaGreat
open Go.RowKit

set_option maxRecDepth 100000 in
theorem rmany_any (w : World) (n : Nat) (hn : n ≤ 1000000) : Calls Tryz.prog 85 #[.int .i64 n] w fun e w' => e = .returned (.int .i64 (many n : Nat)) ∧ w = w' := by
  have hm : 48 * many n < n + 52 ∧ n + 4 ≤ 48 * many n := by unfold many; omega
  have hp := many_pos n
  generalize many n = m at *
  have HM := Lib.hid hm
  clear hm
  go_enter Tryz.func85, Tryz.ntmps85
  go_wp2_with fail
  go_loop [3] (fun i => ∃ k : Nat, i = .int .i64 k ∧ 1 ≤ k ∧ k ≤ m) (fun i => m - (intOf i).toNat)
  case atStart => exact ⟨1, rfl, Nat.le_refl _, hp⟩
  case round =>
    obtain ⟨k, rfl, hk1, hk⟩ := hrel
    have hk9 : k ≤ 1000000 := by have := HM.out; omega
    by_cases hlt : k < m
    · have ht : (48 : Int) * (k : Int) < 4 + (n : Int) := by have := HM.out; omega
      have HL := Lib.hid hlt
      clear hlt hk
      go_wp2_with fail
      exact ⟨⟨k + 1, by go_num, by omega, HL.out⟩, by have := HL.out; simp [intOf]; omega⟩
    · obtain rfl : k = m := by omega
      have ht : ¬ (48 : Int) * (k : Int) < 4 + (n : Int) := by have := HM.out; omega
      clear hlt hk
      go_wp2_with fail
      go_ret
      exact ⟨rfl, rfl⟩
set_option maxRecDepth 100000 in
theorem rneed_any (w : World) (n : Int) : Calls Tryz.prog 86 #[.int .i64 n] w fun e w' => e = .returned (.int .i64 (needN n : Nat)) ∧ w = w' := by
  by_cases h0 : n < 0
  · have : needN n = 0 := by simp [needN, h0]
    rw [this]
    go_enter Tryz.func86, Tryz.ntmps86
    go_wp2_with fail
    go_ret
    exact ⟨rfl, rfl⟩
  by_cases h1 : 32768 < n
  · have : needN n = 0 := by simp [needN, h1]
    rw [this]
    go_enter Tryz.func86, Tryz.ntmps86
    go_wp2_with fail
    go_ret
    exact ⟨rfl, rfl⟩
  obtain ⟨k, rfl⟩ := Int.eq_ofNat_of_zero_le (Int.not_lt.1 h0)
  have hn : needN (k : Int) = (many k + 1) / 2 := by simp [needN]; omega
  rw [hn]
  have hm : many k ≤ 1000 := by unfold many; omega
  have HM := Lib.hid (rmany_any w k (by omega))
  generalize many k = m at *
  go_enter Tryz.func86, Tryz.ntmps86
  go_wp2_with fail
  (with_reducible refine HM.out.mono ?_)
  rintro e w1 ⟨rfl, rfl⟩
  go_wp2_with fail
  (with_reducible refine HM.out.mono ?_)
  rintro e w1 ⟨rfl, rfl⟩
  go_wp2_with fail
  go_ret
  exact ⟨congrArg (fun z => Ending.returned (Value.int .i64 z)) (by omega : (m : Int) / 2 + (m : Int) % 2 = (((m + 1) / 2 : Nat) : Int)), rfl⟩

set_option maxRecDepth 100000 in
/-- The last bytes of a number, one by one. -/
theorem be_back (n s i : Nat) (h : i < s) : (be n s).drop i = UInt8.ofNat (n / 256 ^ (s - 1 - i) % 256) :: (be n s).drop (i + 1) := by
  rw [List.drop_eq_getElem_cons (by rw [be_len]; exact h)]
  congr 1
  simp [be]

/-- Put's bytes: a block of its own. -/
def PutR (w : World) (n s : Nat) (e : Ending) (w' : World) : Prop :=
  ∃ R, e = .returned (.slice (some ⟨R, 0, none⟩) s s) ∧ w.heap.size ≤ R ∧ Blk w' R 5 (cellsB (be n s)).toArray ∧ Fr (fun _ => False) w w'
set_option maxRecDepth 100000 in
theorem patch_tail {l m : List UInt8} {i : Nat} (hm : m.length + i + 1 = l.length) (q : UInt8) : (patch l (i + 1) m).set i q = patch l i (q :: m) := by
  unfold patch
  have h1 : (l.take (i + 1)).length = i + 1 := by rw [List.length_take]; omega
  rw [List.set_append_left _ _ (by omega)]
  have e1 : (l.take (i + 1)).set i q = l.take i ++ [q] := by
    rw [List.take_succ_eq_append_getElem (by omega)]
    have h4 : (l.take i).length = i := by rw [List.length_take]; omega
    rw [List.set_append_right _ _ (by omega), h4, Nat.sub_self]
    rfl
  rw [e1, List.length_cons]
  have e2 : i + (m.length + 1) = i + 1 + m.length := by omega
  rw [e2]
  simp
set_option maxRecDepth 100000 in
theorem rput_any (w : World) (n s : Nat) (hn : n ≤ 18446744073709551615) (hs : s ≤ 8) : Calls Tryz.prog 52 #[.int .u64 n, .int .i64 s] w (PutR w n s) := by
  have hmk := make_bytes w s (by omega)
  have HB := Lib.hid (Blk.new w 5 (cellsB (nought s)).toArray)
  have HF : Hid (Fr (fun _ => False) w (w.alloc (.cells (cellsB (nought s)).toArray 5))) := Lib.hid ((Fr.refl _ w).alloc _)
  have HN := Lib.hid hn
  clear hn
  go_enter Tryz.func52, Tryz.ntmps52
  go_wp2_with fail
  clear hmk
  go_loopw [0, 6] (fun x i wr => ∃ (k : Nat) (q : Int), i = .int .i64 q ∧ q + 1 = k ∧ k ≤ s ∧ x = .int .u64 ((n / 256 ^ (s - k) : Nat) : Int) ∧ Hid (Blk wr w.heap.size 5 (cellsB (patch (nought s) k ((be n s).drop k))).toArray) ∧ Hid (Fr (fun _ => False) w wr)) (fun _ i _ => (intOf i + 1).toNat)
  case atStart => exact ⟨s, _, rfl, by omega, Nat.le_refl _, by simp, Lib.hid (by
    have h1 : (be n s).drop s = [] := List.drop_eq_nil_of_le (by rw [be_len]; exact Nat.le_refl _)
    rw [h1]
    have h2 : patch (nought s) s [] = nought s := by simp [patch]
    rw [h2]
    exact HB.out), HF⟩
  case round =>
    obtain ⟨k, q, rfl, hq, hk, rfl, HBk, HFk⟩ := hrel
    by_cases h0 : 0 ≤ q
    · obtain ⟨i, rfl⟩ := Int.eq_ofNat_of_zero_le h0
      obtain rfl : k = i + 1 := by omega
      have his : i < s := by omega
      obtain ⟨x, hx⟩ : ∃ x, x = n / 256 ^ (s - (i + 1)) := ⟨_, rfl⟩
      have hxn : x ≤ 18446744073709551615 := by rw [hx]; exact Nat.le_trans (Nat.div_le_self _ _) HN.out
      have hbk := be_back n s i his
      have e1 : s - 1 - i = s - (i + 1) := by omega
      rw [e1, ← hx] at hbk
      have hnx : n / 256 ^ (s - i) = x / 256 := by
        have e2 : s - i = s - (i + 1) + 1 := by omega
        rw [e2, Nat.pow_succ, ← Nat.div_div_eq_div_mul, hx]
      rw [← hx]
      have hi0 : (0 : Int) ≤ (i : Int) := by omega
      have hi1 : (i : Int) < (s : Int) := by omega
      have hcv : ((UInt8.ofNat (x % 256)).toNat : Int) = (x : Int) % 256 := by rw [UInt8.toNat_ofNat']; omega
      have c0 := HBk.out.cell i
      have f0 := HBk.out.frozen i
      have hpl : (patch (nought s) (i + 1) ((be n s).drop (i + 1))).length = s := by
        rw [patch_len] <;> simp [be_len, nought_len] <;> omega
      have hdl : ((be n s).drop (i + 1)).length + i + 1 = s := by rw [List.length_drop, be_len]; omega
      have hst := HBk.out.set_ i (.int .u8 ((UInt8.ofNat (x % 256)).toNat : Int))
      have hpt := patch_tail (l := nought s) (m := (be n s).drop (i + 1)) (i := i) (by rw [nought_len]; exact hdl) (UInt8.ofNat (x % 256))
      rw [← hbk] at hpt
      have hst2 : Blk (wr.setCell ⟨w.heap.size, i, none⟩ (.int .u8 ((UInt8.ofNat (x % 256)).toNat : Int))) w.heap.size 5 (cellsB (patch (nought s) i ((be n s).drop i))).toArray := by
        rw [← hpt]
        simpa [cellsB, List.map_set] using hst
      rw [hcv] at hst2
      have hfs : Fr (fun _ => False) w (wr.setCell ⟨w.heap.size, i, none⟩ (.int .u8 ((x : Int) % 256))) := HFk.out.setCell (.inr (Nat.le_refl _)) _
      have hci : ∃ v, wr.cell? ⟨w.heap.size, i, none⟩ = some v := by
        rw [c0]
        exact ⟨_, Array.getElem?_eq_getElem (by simp [cellsB_len, hpl]; omega)⟩
      obtain ⟨v0, hv0⟩ := hci
      have HS := Lib.hid (And.intro hst2 (And.intro hfs hnx))
      clear hst2 hfs hnx hst hpt hpl hdl c0 hbk e1 hx hcv hq hk
      go_wp2_with fail
      refine ⟨⟨i, (i : Int) - 1, by go_num, by omega, by omega, ?_, Lib.hid HS.out.1, Lib.hid HS.out.2.1⟩, by simp [intOf]⟩
      rw [HS.out.2.2]
      exact congrArg (Value.int .u64) (by omega)
    · obtain rfl : k = 0 := by omega
      obtain rfl : q = -1 := by omega
      have hb := HBk.out
      rw [List.drop_zero, patch_all (by rw [nought_len, be_len])] at hb
      have HB2 := Lib.hid hb
      clear hb h0 hq hk
      go_wp2_with fail
      go_ret
      exact ⟨w.heap.size, rfl, Nat.le_refl _, HB2.out, HFk.out⟩
end Go.Proofs.YtjdbgojnpnlblaaGreat

namespace Go.Proofs.YtjdbgojnpnlblaaGreat
open Go.ChangeShapes Go.WideShapes Go.ChangeAt Go.RowKit

set_option maxRecDepth 100000 in
theorem rmay_any (w : World) (c : Nat) (n : Int) : Calls Tryz.prog 42 #[.agg #[.int .u64 c, .int .i64 n]] w fun e w' => e = .returned (.bool (mayT c n)) ∧ Fr (fun _ => False) w w' := by
  go_enter Tryz.func42, Tryz.ntmps42
  go_wp2_with fail
  all_goals
    go_ret
    refine ⟨congrArg (fun b => Ending.returned (Value.bool b)) ?_, (Fr.refl _ _).alloc _⟩
    unfold mayT
    rw [Bool.eq_iff_iff]
    simp
    omega

def tagEq (c : Nat) (n : Int) (c' : Nat) (n' : Int) : Bool := decide (c = c') && decide (n = n')
set_option maxRecDepth 100000 in
theorem tagEq_iff {c c' : Nat} {n n' : Int} : tagEq c n c' n' = true ↔ c = c' ∧ n = n' := by simp [tagEq]
set_option maxRecDepth 100000 in
theorem tag_eql (c : Nat) (n : Int) (c' : Nat) (n' : Int) (w : World) : (binOp .eql 91 (.agg #[.int .u64 c, .int .i64 n]) (.agg #[.int .u64 c', .int .i64 n'])).run Tryz.prog w = .ok (.bool (tagEq c n c' n')) w := by
  go_simp
  unfold tagEq
  by_cases h1 : c = c' <;> by_cases h2 : n = n' <;> simp [h1, h2, Int.natCast_inj]
set_option maxRecDepth 100000 in
theorem tag_neq (c : Nat) (n : Int) (c' : Nat) (n' : Int) (w : World) : (binOp .neq 91 (.agg #[.int .u64 c, .int .i64 n]) (.agg #[.int .u64 c', .int .i64 n'])).run Tryz.prog w = .ok (.bool (!tagEq c n c' n')) w := by
  go_simp
  unfold tagEq
  by_cases h1 : c = c' <;> by_cases h2 : n = n' <;> simp [h1, h2, Int.natCast_inj]

/-- A row that came in. -/
structure RowD where
  c : Nat
  n : Int
  A : Option Addr
  m : Nat
  k : Nat
  l : List UInt8
structure RowOk (w : World) (x : RowD) : Prop where
  c : x.c < 18446744073709551616
  n1 : -9223372036854775808 ≤ x.n
  n2 : x.n ≤ 9223372036854775807
  rd : Rd w x.A x.m x.l
  mc : x.m ≤ x.k
  km : x.k ≤ maxLen
def RowsAt (w : World) (b off : Nat) (xs : List RowD) : Prop := ∀ i x, xs[i]? = some x → RowOk w x ∧ w.cell? ⟨b, off + i * 3, none⟩ = some (.int .u64 x.c) ∧ w.cell? ⟨b, off + i * 3 + 1, none⟩ = some (.int .i64 x.n) ∧ w.cell? ⟨b, off + i * 3 + 2, none⟩ = some (.slice x.A x.m x.k)
set_option maxRecDepth 100000 in
theorem cell_new {w w' : World} {p : Addr} {v : Value} (h : w.cell? p = some v) (f : Fr (fun _ => False) w w') : w'.cell? p = some v :=
  (f.cell (World.block_lt_of_cell? w _ h) (fun q => q)).trans h
set_option maxRecDepth 100000 in
theorem RowsAt.new {w w' : World} {b off : Nat} {xs : List RowD} (h : RowsAt w b off xs) (f : Fr (fun _ => False) w w') : RowsAt w' b off xs := fun i x hi => by
  obtain ⟨h0, h1, h2, h3⟩ := h i x hi
  exact ⟨⟨h0.c, h0.n1, h0.n2, h0.rd.keep f (fun _ _ q => q), h0.mc, h0.km⟩, cell_new h1 f, cell_new h2 f, cell_new h3 f⟩
set_option maxRecDepth 100000 in
theorem RowsAt.range {w : World} {b off : Nat} {xs : List RowD} (h : RowsAt w b off xs) {i : Nat} {x : RowD} (hi : xs[i]? = some x) : w.rangeAt b (off + i * 3) [.int .u64 x.c, .int .i64 x.n] := fun j v hv => by
  obtain ⟨_, h1, h2, _⟩ := h i x hi
  match j with
  | 0 => simp at hv; rw [← hv]; exact h1
  | 1 => simp at hv; rw [← hv]; exact h2
  | j + 2 => simp at hv

end Go.Proofs.YtjdbgojnpnlblaaGreat

namespace Go.Proofs.YtjdbgojnpnlblaaGreat
open Go.RowKit

set_option maxRecDepth 100000 in
theorem infoBs : (Tryz.prog.info? 68).map (fun i => (i.zero, i.size, i.bytes)) = some (some (.slice none 0 0), 1, 24) := by kernel_rfl
set_option maxRecDepth 100000 in
theorem own_of_blk {w : World} {base R n size : Nat} {e : TypeId} {l : List Value} (h : Blk w R e l.toArray) (hb : base ≤ R) (hl : l.length = n * size) (hn : n ≤ maxLen) : w.ownsRow base e size (.slice (some ⟨R, 0, none⟩) n n) n l :=
  ⟨hl, .inr ⟨R, n, l.toArray, rfl, hb, h, Nat.le_refl _, hn, by simp [hl], by simp [← hl]⟩⟩
set_option maxRecDepth 100000 in
theorem bytes_own {w : World} {base R n : Nat} {l : List UInt8} (h : Blk w R 5 (cellsB l).toArray) (hb : base ≤ R) (hl : l.length = n) (hn : n ≤ maxLen) : w.ownsRow base 5 1 (.slice (some ⟨R, 0, none⟩) n n) l.length (cellsB l) := by
  rw [hl]
  exact own_of_blk h hb (by rw [cellsB_len, hl, Nat.mul_one]) hn
set_option maxRecDepth 100000 in
theorem bytes_rd {w : World} {R n : Nat} {t : TypeId} {l : List UInt8} (h : Blk w R t (cellsB l).toArray) (hl : l.length = n) (hn : 0 < n) : Rd w (some ⟨R, 0, none⟩) n l := by
  subst hl
  exact h.rd hn
set_option maxRecDepth 100000 in
theorem own_le {w : World} {base e size n m c : Nat} {A : Option Addr} {xs : List Value} (h : w.ownsRow base e size (.slice A n c) m xs) : n ≤ c ∧ c ≤ maxLen := by
  obtain ⟨A', c', e0, h1, h2⟩ := own_slice h
  injection e0 with _ e1 e2
  subst e1 e2
  exact ⟨h1, h2⟩
set_option maxRecDepth 100000 in
theorem bytes_rd2 {w : World} {base e n k c : Nat} {A : Option Addr} {l : List UInt8} (h : w.ownsRow base e 1 (.slice A k c) n (cellsB l)) (hl : l.length = k) : Rd w A k l := by
  have hn : n = k := by have := h.1; rw [cellsB_len] at this; omega
  subst hn
  exact Rd.of_own h
set_option maxRecDepth 100000 in
theorem own_none {w : World} {base e size n m c : Nat} {A : Option Addr} {xs : List Value} (h : w.ownsRow base e size (.slice A n c) m xs) : A = none → c = 0 := by
  rintro rfl
  rcases h.2 with ⟨q, _⟩ | ⟨g, cap, cur, q, _⟩
  · injection q
  · injection q with q _ _
    cases q
set_option maxRecDepth 100000 in
theorem one_byte (w : World) (t : TypeId) (c : UInt8) : Rd (w.alloc (.cells #[.int .u8 (c.toNat : Int)] t)) (some ⟨w.heap.size, 0, none⟩) 1 [c] := by
  refine ⟨rfl, fun _ => ⟨_, rfl, fun j d hj => ?_⟩⟩
  cases j with
  | zero =>
    simp at hj
    subst hj
    exact (Blk.new w t #[.int .u8 (c.toNat : Int)]).cell 0
  | succ j => simp at hj

/-- Values that are rows of bytes, from the block base on, in none that is 'own'. -/
def Els (w : World) (base : Nat) (own : Option Nat) (vs : List Value) (ls : List (List UInt8)) : Prop :=
  vs.length = ls.length ∧ ∀ (i : Nat) l, ls[i]? = some l → ∃ A c, vs[i]? = some (.slice A l.length c) ∧ l.length ≤ c ∧ Rd w A l.length l ∧ (A = none → c = 0) ∧ ∀ ad, A = some ad → base ≤ ad.block ∧ own ≠ some ad.block
def Lst (w : World) (base : Nat) (v : Value) (ls : List (List UInt8)) : Prop := ∃ vs, w.ownsRow base 68 1 v ls.length vs ∧ Els w base v.ownBlock vs ls

set_option maxRecDepth 100000 in
theorem Els.keep {F : Nat → Prop} {w w' : World} {base : Nat} {own : Option Nat} {vs : List Value} {ls : List (List UInt8)} (h : Els w base own vs ls) (f : Fr F w w') (hF : ∀ j, base ≤ j → some j ≠ own → ¬ F j) : Els w' base own vs ls := by
  refine ⟨h.1, fun i l hi => ?_⟩
  obtain ⟨A, c, h1, h2, h3, h5, h4⟩ := h.2 i l hi
  exact ⟨A, c, h1, h2, h3.keep f (fun ad e => hF _ (h4 ad e).1 (fun q => (h4 ad e).2 q.symm)), h5, h4⟩
set_option maxRecDepth 100000 in
theorem Lst.keep {F : Nat → Prop} {w w' : World} {base : Nat} {v : Value} {ls : List (List UInt8)} (h : Lst w base v ls) (f : Fr F w w') (hF : ∀ j, base ≤ j → ¬ F j) : Lst w' base v ls := by
  obtain ⟨vs, h1, h2⟩ := h
  exact ⟨vs, own_keep h1 f (fun k hk => hF _ (h1.lt k hk).1), h2.keep f (fun j hj _ => hF j hj)⟩
set_option maxRecDepth 100000 in
theorem Lst.new {w w' : World} {base : Nat} {v : Value} {ls : List (List UInt8)} (h : Lst w base v ls) (f : Fr (fun _ => False) w w') : Lst w' base v ls := h.keep f (fun _ _ q => q)
set_option maxRecDepth 100000 in
theorem Lst.nil (w : World) (base : Nat) : Lst w base (.slice none 0 0) [] := ⟨[], World.ownsRow_nil _ _ _ _, rfl, fun i l hi => by simp at hi⟩
set_option maxRecDepth 100000 in
theorem Lst.form {w : World} {base : Nat} {v : Value} {ls : List (List UInt8)} (h : Lst w base v ls) : ∃ A c, v = .slice A ls.length c ∧ ls.length ≤ c ∧ c ≤ maxLen := by
  obtain ⟨vs, h1, _⟩ := h
  exact own_slice h1
set_option maxRecDepth 100000 in
theorem Els.app {w : World} {base : Nat} {own : Option Nat} {vs us : List Value} {ls ms : List (List UInt8)} (h : Els w base own vs ls) (k : Els w base own us ms) : Els w base own (vs ++ us) (ls ++ ms) := by
  refine ⟨by simp [h.1, k.1], fun i l hi => ?_⟩
  by_cases hlt : i < ls.length
  · rw [List.getElem?_append_left hlt] at hi
    rw [List.getElem?_append_left (by rw [h.1]; exact hlt)]
    exact h.2 i l hi
  · rw [List.getElem?_append_right (by omega)] at hi
    rw [List.getElem?_append_right (by rw [h.1]; omega), h.1]
    exact k.2 _ l hi
/-- None of them is empty. -/
def Full (ls : List (List UInt8)) : Prop := ∀ l ∈ ls, 0 < l.length
set_option maxRecDepth 100000 in
theorem Els.own {w : World} {base : Nat} {own own' : Option Nat} {vs : List Value} {ls : List (List UInt8)} (h : Els w base own vs ls) (ho : own' = own ∨ own' = some w.heap.size) (hz : Full ls) : Els w base own' vs ls := by
  refine ⟨h.1, fun i l hi => ?_⟩
  obtain ⟨A, c, h1, h2, h3, h5, h4⟩ := h.2 i l hi
  refine ⟨A, c, h1, h2, h3, h5, fun ad e => ⟨(h4 ad e).1, ?_⟩⟩
  rcases ho with rfl | rfl
  · exact (h4 ad e).2
  · intro q
    obtain ⟨ad', e', hlt⟩ := h3.lt (hz l (List.mem_of_getElem? hi))
    rw [e] at e'
    injection e' with e'
    subst e'
    injection q with q
    omega

set_option maxRecDepth 100000 in
theorem Lst.mono {w : World} {base base' : Nat} {v : Value} {ls : List (List UInt8)} (h : Lst w base v ls) (hb : base' ≤ base) : Lst w base' v ls := by
  obtain ⟨vs, h1, h2⟩ := h
  refine ⟨vs, ⟨h1.1, ?_⟩, h2.1, fun i l hi => ?_⟩
  · rcases h1.2 with q | ⟨g, cap, cur, e, hg, rest⟩
    · exact .inl q
    · exact .inr ⟨g, cap, cur, e, Nat.le_trans hb hg, rest⟩
  · obtain ⟨A, c, k1, k2, k3, k5, k4⟩ := h2.2 i l hi
    exact ⟨A, c, k1, k2, k3, k5, fun ad e => ⟨Nat.le_trans hb (k4 ad e).1, (k4 ad e).2⟩⟩
set_option maxRecDepth 100000 in
theorem Lst.lt {w : World} {base : Nat} {v : Value} {ls : List (List UInt8)} (h : Lst w base v ls) : ∀ k, v.ownBlock = some k → base ≤ k ∧ k < w.heap.size := by
  obtain ⟨vs, h1, h2⟩ := h
  exact h1.lt
set_option maxRecDepth 100000 in
/-- Rows of one's own, of unlike types, lie in unlike blocks. -/
theorem own_apart2 {w : World} {base base' e e' size size' n n' : Nat} {v v' : Value} {xs xs' : List Value} (h : w.ownsRow base e size v n xs) (k : w.ownsRow base' e' size' v' n' xs') (hne : e ≠ e') : v.ownBlock = none ∨ v.ownBlock ≠ v'.ownBlock := by
  rcases h.2 with ⟨rfl, _⟩ | ⟨g, cap, cur, rfl, _, hg, _⟩
  · exact .inl rfl
  · right
    rcases k.2 with ⟨rfl, _⟩ | ⟨g', cap', cur', rfl, _, hg', _⟩
    · simp [Value.ownBlock]
    · intro q
      have : g = g' := by simpa [Value.ownBlock] using q
      subst this
      exact Blk.ne_ (t := e) hg hg' hne rfl
set_option maxRecDepth 100000 in
theorem Lst.apart {w : World} {base base' size n : Nat} {e : TypeId} {v v' : Value} {ls : List (List UInt8)} {xs : List Value} (k : Lst w base' v' ls) (h : w.ownsRow base e size v n xs) (hne : e ≠ 68) : v.ownBlock = none ∨ v.ownBlock ≠ v'.ownBlock := by
  obtain ⟨vs, h1, _⟩ := k
  exact own_apart2 h h1 hne
set_option maxRecDepth 100000 in
/-- 's[i:j]' of bytes. -/
theorem slice_part {w : World} {A : Option Addr} {n c : Nat} {l : List UInt8} (hr : Rd w A n l) (hnc : n ≤ c) (i j : Nat) (hij : i < j) (hj : j ≤ n) :
    ∃ ad, A = some ad ∧ (∀ W, (Instr.slice 68 (.slice A n c) (some (.int .i64 (i : Int))) (some (.int .i64 (j : Int))) none).run Tryz.prog W = .ok (.slice (some (ad.add i)) (j - i) (c - i)) W) ∧ Rd w (some (ad.add i)) (j - i) ((l.drop i).take (j - i)) := by
  have h1 := (hr.drop (k := i) (by omega) hnc).take (k := j - i) (by omega)
  obtain ⟨ad, c0, rfl, _, _⟩ := hr.at_ (k := i) (by omega)
  rw [if_neg (by omega)] at h1
  refine ⟨ad, rfl, fun W => ?_, h1⟩
  rw [run_slice_lh W 68 (some ad) n c (by kernel_rfl) .i64 .i64 i j (by omega) (by omega) (by omega)]
  have hz : ∀ w, (sizeOf (Tryz.prog.elem 68)).run Tryz.prog w = .ok 1 w := fun w => by
    obtain ⟨i0, hi, hz0, hz1, hz2⟩ := info_parts infoU8
    have e : Tryz.prog.elem 68 = 5 := by kernel_rfl
    rw [e]
    simp [sizeOf, typeInfo, hi, hz1]
  rw [hz]
  have : (((j : Int) - (i : Int)).toNat) = j - i := by omega
  have hci : c ≠ i := by omega
  simp [Result.andThen, sliced, this, hci]

set_option maxRecDepth 100000 in
theorem Els.one {w : World} {base : Nat} {own : Option Nat} {A : Option Addr} {c k : Nat} {l : List UInt8} (hk : l.length = k) (hc : k ≤ c) (hr : Rd w A k l) (h5 : A = none → c = 0) (h4 : ∀ ad, A = some ad → base ≤ ad.block ∧ own ≠ some ad.block) : Els w base own [.slice A k c] [l] := by
  subst hk
  refine ⟨rfl, fun i l' hi => ?_⟩
  cases i with
  | zero =>
    simp at hi
    subst hi
    exact ⟨A, c, rfl, hc, hr, h5, h4⟩
  | succ i => simp at hi

section
variable {ops : Array Oper} {o : Oper} {a : Act} {Q : Exit → Act → World → Prop}
set_option maxRecDepth 100000 in
theorem run_append_lst {w : World} (ty : TypeId) {base : Nat} {v : Value} {ls ms : List (List UInt8)} {us : List Value} (hL : Lst w base v ls) {B m : Nat} (hB : Blk w B 68 us.toArray) (hE : Els w base v.ownBlock us ms) (hm : ms.length = m) (c : Nat)
    (hz1 : Full ls) (hz2 : Full ms) (hlen : ls.length + m ≤ 1000000) (hbase : base ≤ w.heap.size) :
    ∃ v' w', (Builtin.append_ #[138, 138] ty #[v, .slice (some ⟨B, 0, none⟩) m c]).run Tryz.prog w = .ok v' w' ∧ Lst w' base v' (ls ++ ms) ∧ w.grownBy w' v.ownBlock ∧ (v'.ownBlock = v.ownBlock ∨ v'.ownBlock = some w.heap.size) := by
  obtain ⟨i0, hi, hq0, hq1, hq2⟩ := info_parts infoBs
  obtain ⟨vs, h1, h2⟩ := hL
  obtain ⟨v', w', hrun, g2, g3, _, g5⟩ := run_append_own_at (P := Tryz.prog) w base 138 ty 68 i0 (.slice none 0 0) 1 24 Tryz.underlying138 hi hq0 hq1 hq2 (by rfl) (by omega) v ls.length vs h1 ⟨B, 0, none⟩ m c us
    (by rw [hE.1, hm]; omega) (fun j u hj => by
      rw [Addr.add_lit, Nat.zero_add, hB.cell j]
      simpa using hj) (fun u hu => by
      obtain ⟨j, hj⟩ := List.getElem?_of_mem hu
      have hlt : j < ms.length := by rw [← hE.1]; exact (List.getElem?_eq_some_iff.1 hj).1
      obtain ⟨A, c', h3, _⟩ := hE.2 j _ (List.getElem?_eq_getElem hlt)
      rw [hj] at h3
      injection h3 with h3
      rw [h3]
      rfl) (by simp only [maxLen]; omega) (by omega) hbase
  have fr : Fr (fun k => some k = v.ownBlock) w w' := (Fr.refl _ w).grown g3 (fun k hk => .inl hk.symm)
  refine ⟨v', w', hrun, ⟨vs ++ us, by rw [List.length_append, hm]; exact g2, ?_⟩, g3, g5⟩
  have e1 := (h2.app hE)
  have e2 : Els w base v'.ownBlock (vs ++ us) (ls ++ ms) := e1.own g5 (fun l hl => by
    rcases List.mem_append.1 hl with q | q
    · exact hz1 l q
    · exact hz2 l q)
  refine ⟨e1.1, fun i l hi => ?_⟩
  obtain ⟨A, c', h3, h4, h5, h7, h6⟩ := e1.2 i l hi
  obtain ⟨A2, c2, k3, _, _, _, k6⟩ := e2.2 i l hi
  rw [h3] at k3
  injection k3 with k3
  injection k3 with k31 _ _
  subst k31
  exact ⟨A, c', h3, h4, h5.keep fr (fun ad e q => (h6 ad e).2 q.symm), h7, k6⟩
set_option maxRecDepth 100000 in
theorem wpList_append_lst {rest : List Oper} {w : World} (hg : o.guard = none) (s x : Operand) (hop : o.op = Op.call { callee := Callee.builtin Builtin.append, args := #[s, x], argTypes := #[138, 138] })
    {base : Nat} {v : Value} {ls ms : List (List UInt8)} {us : List Value} (hL : Lst w base v ls) {B m : Nat} (hB : Blk w B 68 us.toArray) (hE : Els w base v.ownBlock us ms) (hm : ms.length = m) (c : Nat) (hs : a.eval s = v) (hx : a.eval x = .slice (some ⟨B, 0, none⟩) m c)
    (hz1 : Full ls) (hz2 : Full ms) (hlen : ls.length + m ≤ 1000000) (hbase : base ≤ w.heap.size)
    (hK : ∀ v' w', Lst w' base v' (ls ++ ms) → w.grownBy w' v.ownBlock → (v'.ownBlock = v.ownBlock ∨ v'.ownBlock = some w.heap.size) → wpList Tryz.prog ops Q rest (a.put o.dst v') w') : wpList Tryz.prog ops Q (o :: rest) a w := by
  refine wpList_plain hg fun K hK' => ?_
  obtain ⟨v', w', hrun, h2, h3, h4⟩ := run_append_lst o.type hL hB hE hm c hz1 hz2 hlen hbase
  unfold Oper.wp
  simp [execOp, hop, resolve, invoke, builtin, hs, hx, hrun, Result.andThen]
  exact hK' _ _ (hK v' w' h2 h3 h4)
set_option maxRecDepth 100000 in
theorem step_append_bytes {w : World} {K : Act → World → Prop} {E : Prop} (hg : o.guard = none) (s x : Operand) (hop : o.op = Op.call { callee := Callee.builtin Builtin.append, args := #[s, x], argTypes := #[68, 68] })
    (base : Nat) (v : Value) (xs l : List UInt8) (hs : a.eval s = v) (hown : w.ownsRow base 5 1 v xs.length (cellsB xs)) (A : Option Addr) (m c : Nat) (hx : a.eval x = .slice A m c) (hr : Rd w A m l)
    (hb : xs.length + m ≤ 140737488355328) (hbase : base ≤ w.heap.size)
    (hK : ∀ v' w', w'.ownsRow base 5 1 v' (xs ++ l).length (cellsB (xs ++ l)) → w.grownBy w' v.ownBlock → (v'.ownBlock = v.ownBlock ∨ v'.ownBlock = some w.heap.size) → K (a.put o.dst v') w') : if Region.wanted o (yielded ops a.tmps) = true then Oper.wp Tryz.prog o a w K Q else E := by
  obtain ⟨i0, hi, hz0, hz1, hz2⟩ := info_parts infoU8
  have hw : Region.wanted o (yielded ops a.tmps) = true := by simp [Region.wanted, hg]
  rw [if_pos hw]
  obtain ⟨v', w', hrun, h2, h3, h4⟩ := run_append_bytes (P := Tryz.prog) w base 68 o.type 5 i0 (.int .u8 0) Tryz.underlying68 hi hz0 hz1 hz2 rfl v xs l hown A m c hr hb hbase
  unfold Oper.wp
  simp [execOp, hop, resolve, invoke, builtin, hs, hx, hrun, Result.andThen]
  exact hK v' w' h2 h3 h4
set_option maxRecDepth 100000 in
theorem wpList_more {rest : List Oper} {w : World} (hg : o.guard = none) (s x : Operand) (hop : o.op = Op.call { callee := Callee.builtin Builtin.append, args := #[s, x], argTypes := #[68, 68] })
    (base : Nat) (v : Value) (xs l : List UInt8) (hs : a.eval s = v) (hown : w.ownsRow base 5 1 v xs.length (cellsB xs)) (A : Option Addr) (m c : Nat) (hx : a.eval x = .slice A m c) (hr : Rd w A m l)
    (hb : xs.length + m ≤ 140737488355328) (hbase : base ≤ w.heap.size)
    (hK : ∀ v' w', w'.ownsRow base 5 1 v' (xs ++ l).length (cellsB (xs ++ l)) → w.grownBy w' v.ownBlock → (v'.ownBlock = v.ownBlock ∨ v'.ownBlock = some w.heap.size) → wpList Tryz.prog ops Q rest (a.put o.dst v') w') : wpList Tryz.prog ops Q (o :: rest) a w := by
  obtain ⟨i0, hi, hz0, hz1, hz2⟩ := info_parts infoU8
  exact wpList_append_bytes w hg s x 68 hop base 5 i0 (.int .u8 0) Tryz.underlying68 hi hz0 hz1 hz2 rfl v xs l hs hown A m c hx hr hb hbase hK
end
end Go.Proofs.YtjdbgojnpnlblaaGreat

