/- W8: laid together out of Law Rmn Row Lst Rpa Dat. -/
import Derived.Test.YtpdfpnpkbknhnaaGreatRows
import Derived.ProofKit
import Derived.OpenShut
import Derived.Deep.Slices
import Derived.Lib.SmallJoins
import Derived.Deep.RegionHeld3
import Derived.Deep.AppendLies
import Derived.Test.YtpdfpnpkbknhnaaGreatW7
namespace Go.Proofs.YtpdfpnpkbknhnaaGreat
open Go.ChangeShapes Go.WideShapes Go.ChangeAt Go.RowKit

set_option maxRecDepth 100000 in
theorem own : ownKnob Tryz.prog.godebug = none := by kernel_rfl
set_option maxRecDepth 100000 in
theorem laidOut : laidOutB Tryz.prog = true := by kernel_rfl

section
variable {H : Type} {enc : TypeId × Value → H} {P : Program}

set_option maxRecDepth 100000 in
/-- Arguments read behind the call as they did. -/
theorem args_stay {W W' : World} (hl : laidOutB P = true) (hb : Below W.heap.size W W') {sp : Nat → Bool} : ∀ {ts : List TypeId} {vs : List Value} {ds : List (DataW H)} {ps : List MemPlace},
    (∀ t ∈ ts, P.readableRec t = true ∧ t < P.types.size) → DataW.TrodAll enc P W 0 (fun _ => true) true ts vs ds ps → (∀ x ∈ ps, x.block < W.heap.size) → (∀ x ∈ ps, sp x.block = true) →
    DataW.TrodAll enc P W' 0 sp true ts vs ds ps
  | [], vs, ds, ps, _, h, _, _ => by
    obtain ⟨rfl, rfl, rfl⟩ := trodAll_nil h
    exact trodAll_mk0
  | t :: ts, vs, ds, ps, ht, h, hlt, hsp => by
    obtain ⟨v, vs', d, ds', p, q, rfl, rfl, rfl, h1, h2⟩ := trodAll_cons h
    have ht0 := ht t (by simp)
    exact trodAll_cons_mk (WideElems.Trod_stays hl ht0.1 ht0.2 h1 (fun x hx => hb.same (hlt x (by simp [hx]))) (fun x hx => hsp x (by simp [hx])))
      (args_stay hl hb (fun t' h' => ht t' (by simp [h'])) h2 (fun x hx => hlt x (by simp [hx])) (fun x hx => hsp x (by simp [hx])))

set_option maxRecDepth 100000 in
/-- A law's end. -/
theorem law_post {f : Func} {s : ChangeSpec} {tb : TypeId} {W W' : World} {args : Array Value} {ds gs : List (DataW H)} {before : List MemPlace}
    (hl : laidOutB P = true) (hvars : s.vars = []) (hpar0 : f.params.toList.all (fun t => P.readableRec t && decide (t < P.types.size)) = true) (hr : f.resultTypes = #[tb]) (hbool : P.underlying tb = some .bool)
    (hW : DataW.Whole enc P f.params.toList s.vars false W args.toList ds gs before) (hfn : s.fn H ds = { results := [.lit (.bool true)], args := ds }) (hb : Below W.heap.size W W') :
    s.post enc P f false true false false W args (.bool true) W' := by
  have hlt : ∀ x ∈ before, x.block < W.heap.size := fun x hx => hW.lt x hx
  have hpar : ∀ t ∈ f.params.toList, P.readableRec t = true ∧ t < P.types.size := fun t ht => by
    have := List.all_eq_true.1 hpar0 t ht
    simpa using this
  obtain ⟨p, q, hA, hV, hp, hfz, hnd⟩ := hW
  have hV' := hV
  rw [hvars] at hV'
  obtain ⟨rfl, rfl⟩ := trodVars_none hV'
  have hpp : before = p := by rw [hp, List.append_nil]
  subst hpp
  have hds : ds ++ [] = ds := List.append_nil ds
  refine ⟨ds, [], before, [], before, [], ⟨before, [], hA, hV, hp, hfz, hnd⟩, ?_, ?_, ?_, World.keptBut_mono (fun x hx => ⟨hx, .inr (.inl hx)⟩) (hb.frame (· ∈ before)), fun h => by cases h⟩
  · rw [hds, hfn, hr]
    exact trodAll_cons_mk (shut_bool hbool _) trodAll_mk0
  · rw [hds, hfn]
    exact args_stay hl hb hpar hA hlt (fun x hx => by simpa using hlt x hx)
  · rw [hds, hfn, hvars]
    exact rfl
end
end Go.Proofs.YtpdfpnpkbknhnaaGreat

namespace Go.Proofs.YtpdfpnpkbknhnaaGreat
open Go.RowKit

set_option maxRecDepth 100000 in
theorem rmany_any (w : World) (n : Nat) (hn : n ≤ 1000000) : Calls Tryz.prog 88 #[.int .i64 n] w fun e w' => e = .returned (.int .i64 (many n : Nat)) ∧ w = w' := by
  have hm : 48 * many n < n + 52 ∧ n + 4 ≤ 48 * many n := by unfold many; omega
  have hp := many_pos n
  generalize many n = m at *
  have HM := Lib.hid hm
  clear hm
  go_enter Tryz.func88, Tryz.ntmps88
  go_wp2_with fail
  go_loop [3] (fun i => ∃ k : Nat, i = .int .i64 k ∧ 1 ≤ k ∧ k ≤ m) (fun i => m - (intOf i).toNat)
  case atStart => exact ⟨1, rfl, Nat.le_refl _, hp⟩
  case round =>
    obtain ⟨k, rfl, hk1, hk⟩ := hrel
    have hk9 : k ≤ 1000000 := by have := HM.out; omega
    by_cases hlt : k < m
    · have ht : (48 : Int) * (k : Int) < 4 + (n : Int) := by have := HM.out; omega
      have HL := Lib.hid hlt
      clear hlt hk
      go_wp2_with fail
      exact ⟨⟨k + 1, by go_num, by omega, HL.out⟩, by have := HL.out; simp [intOf]; omega⟩
    · obtain rfl : k = m := by omega
      have ht : ¬ (48 : Int) * (k : Int) < 4 + (n : Int) := by have := HM.out; omega
      clear hlt hk
      go_wp2_with fail
      go_ret
      exact ⟨rfl, rfl⟩
set_option maxRecDepth 100000 in
theorem rneed_any (w : World) (n : Int) : Calls Tryz.prog 56 #[.int .i64 n] w fun e w' => e = .returned (.int .i64 (needN n : Nat)) ∧ w = w' := by
  by_cases h0 : n < 0
  · have : needN n = 0 := by simp [needN, h0]
    rw [this]
    go_enter Tryz.func56, Tryz.ntmps56
    go_wp2_with fail
    go_ret
    exact ⟨rfl, rfl⟩
  by_cases h1 : 32768 < n
  · have : needN n = 0 := by simp [needN, h1]
    rw [this]
    go_enter Tryz.func56, Tryz.ntmps56
    go_wp2_with fail
    go_ret
    exact ⟨rfl, rfl⟩
  obtain ⟨k, rfl⟩ := Int.eq_ofNat_of_zero_le (Int.not_lt.1 h0)
  have hn : needN (k : Int) = (many k + 1) / 2 := by simp [needN]; omega
  rw [hn]
  have hm : many k ≤ 1000 := by unfold many; omega
  have HM := Lib.hid (rmany_any w k (by omega))
  generalize many k = m at *
  go_enter Tryz.func56, Tryz.ntmps56
  go_wp2_with fail
  (with_reducible refine HM.out.mono ?_)
  rintro e w1 ⟨rfl, rfl⟩
  go_wp2_with fail
  (with_reducible refine HM.out.mono ?_)
  rintro e w1 ⟨rfl, rfl⟩
  go_wp2_with fail
  go_ret
  exact ⟨congrArg (fun z => Ending.returned (Value.int .i64 z)) (by omega : (m : Int) / 2 + (m : Int) % 2 = (((m + 1) / 2 : Nat) : Int)), rfl⟩

set_option maxRecDepth 100000 in
/-- The last bytes of a number, one by one. -/
theorem be_back (n s i : Nat) (h : i < s) : (be n s).drop i = UInt8.ofNat (n / 256 ^ (s - 1 - i) % 256) :: (be n s).drop (i + 1) := by
  rw [List.drop_eq_getElem_cons (by rw [be_len]; exact h)]
  congr 1
  simp [be]

/-- Put's bytes: a block of its own. -/
def PutR (w : World) (n s : Nat) (e : Ending) (w' : World) : Prop :=
  ∃ R, e = .returned (.slice (some ⟨R, 0, none⟩) s s) ∧ w.heap.size ≤ R ∧ Blk w' R 5 (cellsB (be n s)).toArray ∧ Fr (fun _ => False) w w'
set_option maxRecDepth 100000 in
theorem patch_tail {l m : List UInt8} {i : Nat} (hm : m.length + i + 1 = l.length) (q : UInt8) : (patch l (i + 1) m).set i q = patch l i (q :: m) := by
  unfold patch
  have h1 : (l.take (i + 1)).length = i + 1 := by rw [List.length_take]; omega
  rw [List.set_append_left _ _ (by omega)]
  have e1 : (l.take (i + 1)).set i q = l.take i ++ [q] := by
    rw [List.take_succ_eq_append_getElem (by omega)]
    have h4 : (l.take i).length = i := by rw [List.length_take]; omega
    rw [List.set_append_right _ _ (by omega), h4, Nat.sub_self]
    rfl
  rw [e1, List.length_cons]
  have e2 : i + (m.length + 1) = i + 1 + m.length := by omega
  rw [e2]
  simp
end Go.Proofs.YtpdfpnpkbknhnaaGreat

namespace Go.Proofs.YtpdfpnpkbknhnaaGreat
open Go.ChangeShapes Go.WideShapes Go.ChangeAt Go.RowKit

def tagEq (c : Nat) (n : Int) (c' : Nat) (n' : Int) : Bool := decide (c = c') && decide (n = n')
set_option maxRecDepth 100000 in
theorem tagEq_iff {c c' : Nat} {n n' : Int} : tagEq c n c' n' = true ↔ c = c' ∧ n = n' := by simp [tagEq]
set_option maxRecDepth 100000 in
theorem tag_eql (c : Nat) (n : Int) (c' : Nat) (n' : Int) (w : World) : (binOp .eql 148 (.agg #[.int .u64 c, .int .i64 n]) (.agg #[.int .u64 c', .int .i64 n'])).run Tryz.prog w = .ok (.bool (tagEq c n c' n')) w := by
  go_simp
  unfold tagEq
  by_cases h1 : c = c' <;> by_cases h2 : n = n' <;> simp [h1, h2, Int.natCast_inj]
set_option maxRecDepth 100000 in
theorem tag_neq (c : Nat) (n : Int) (c' : Nat) (n' : Int) (w : World) : (binOp .neq 148 (.agg #[.int .u64 c, .int .i64 n]) (.agg #[.int .u64 c', .int .i64 n'])).run Tryz.prog w = .ok (.bool (!tagEq c n c' n')) w := by
  go_simp
  unfold tagEq
  by_cases h1 : c = c' <;> by_cases h2 : n = n' <;> simp [h1, h2, Int.natCast_inj]

/-- A row that came in. -/
structure RowD where
  c : Nat
  n : Int
  A : Option Addr
  m : Nat
  k : Nat
  l : List UInt8
structure RowOk (w : World) (x : RowD) : Prop where
  c : x.c < 18446744073709551616
  n1 : -9223372036854775808 ≤ x.n
  n2 : x.n ≤ 9223372036854775807
  rd : Rd w x.A x.m x.l
  mc : x.m ≤ x.k
  km : x.k ≤ maxLen
def RowsAt (w : World) (b off : Nat) (xs : List RowD) : Prop := ∀ i x, xs[i]? = some x → RowOk w x ∧ w.cell? ⟨b, off + i * 3, none⟩ = some (.int .u64 x.c) ∧ w.cell? ⟨b, off + i * 3 + 1, none⟩ = some (.int .i64 x.n) ∧ w.cell? ⟨b, off + i * 3 + 2, none⟩ = some (.slice x.A x.m x.k)
set_option maxRecDepth 100000 in
theorem cell_new {w w' : World} {p : Addr} {v : Value} (h : w.cell? p = some v) (f : Fr (fun _ => False) w w') : w'.cell? p = some v :=
  (f.cell (World.block_lt_of_cell? w _ h) (fun q => q)).trans h
set_option maxRecDepth 100000 in
theorem RowsAt.new {w w' : World} {b off : Nat} {xs : List RowD} (h : RowsAt w b off xs) (f : Fr (fun _ => False) w w') : RowsAt w' b off xs := fun i x hi => by
  obtain ⟨h0, h1, h2, h3⟩ := h i x hi
  exact ⟨⟨h0.c, h0.n1, h0.n2, h0.rd.keep f (fun _ _ q => q), h0.mc, h0.km⟩, cell_new h1 f, cell_new h2 f, cell_new h3 f⟩
set_option maxRecDepth 100000 in
theorem RowsAt.range {w : World} {b off : Nat} {xs : List RowD} (h : RowsAt w b off xs) {i : Nat} {x : RowD} (hi : xs[i]? = some x) : w.rangeAt b (off + i * 3) [.int .u64 x.c, .int .i64 x.n] := fun j v hv => by
  obtain ⟨_, h1, h2, _⟩ := h i x hi
  match j with
  | 0 => simp at hv; rw [← hv]; exact h1
  | 1 => simp at hv; rw [← hv]; exact h2
  | j + 2 => simp at hv

end Go.Proofs.YtpdfpnpkbknhnaaGreat

namespace Go.Proofs.YtpdfpnpkbknhnaaGreat
open Go.RowKit

set_option maxRecDepth 100000 in
theorem infoBs : (Tryz.prog.info? 46).map (fun i => (i.zero, i.size, i.bytes)) = some (some (.slice none 0 0), 1, 24) := by kernel_rfl
set_option maxRecDepth 100000 in
theorem own_of_blk {w : World} {base R n size : Nat} {e : TypeId} {l : List Value} (h : Blk w R e l.toArray) (hb : base ≤ R) (hl : l.length = n * size) (hn : n ≤ maxLen) : w.ownsRow base e size (.slice (some ⟨R, 0, none⟩) n n) n l :=
  ⟨hl, .inr ⟨R, n, l.toArray, rfl, hb, h, Nat.le_refl _, hn, by simp [hl], by simp [← hl]⟩⟩
set_option maxRecDepth 100000 in
theorem bytes_own {w : World} {base R n : Nat} {l : List UInt8} (h : Blk w R 5 (cellsB l).toArray) (hb : base ≤ R) (hl : l.length = n) (hn : n ≤ maxLen) : w.ownsRow base 5 1 (.slice (some ⟨R, 0, none⟩) n n) l.length (cellsB l) := by
  rw [hl]
  exact own_of_blk h hb (by rw [cellsB_len, hl, Nat.mul_one]) hn
set_option maxRecDepth 100000 in
theorem bytes_rd {w : World} {R n : Nat} {t : TypeId} {l : List UInt8} (h : Blk w R t (cellsB l).toArray) (hl : l.length = n) (hn : 0 < n) : Rd w (some ⟨R, 0, none⟩) n l := by
  subst hl
  exact h.rd hn
set_option maxRecDepth 100000 in
theorem own_le {w : World} {base e size n m c : Nat} {A : Option Addr} {xs : List Value} (h : w.ownsRow base e size (.slice A n c) m xs) : n ≤ c ∧ c ≤ maxLen := by
  obtain ⟨A', c', e0, h1, h2⟩ := own_slice h
  injection e0 with _ e1 e2
  subst e1 e2
  exact ⟨h1, h2⟩
set_option maxRecDepth 100000 in
theorem bytes_rd2 {w : World} {base e n k c : Nat} {A : Option Addr} {l : List UInt8} (h : w.ownsRow base e 1 (.slice A k c) n (cellsB l)) (hl : l.length = k) : Rd w A k l := by
  have hn : n = k := by have := h.1; rw [cellsB_len] at this; omega
  subst hn
  exact Rd.of_own h
set_option maxRecDepth 100000 in
theorem own_none {w : World} {base e size n m c : Nat} {A : Option Addr} {xs : List Value} (h : w.ownsRow base e size (.slice A n c) m xs) : A = none → c = 0 := by
  rintro rfl
  rcases h.2 with ⟨q, _⟩ | ⟨g, cap, cur, q, _⟩
  · injection q
  · injection q with q _ _
    cases q
set_option maxRecDepth 100000 in
theorem one_byte (w : World) (t : TypeId) (c : UInt8) : Rd (w.alloc (.cells #[.int .u8 (c.toNat : Int)] t)) (some ⟨w.heap.size, 0, none⟩) 1 [c] := by
  refine ⟨rfl, fun _ => ⟨_, rfl, fun j d hj => ?_⟩⟩
  cases j with
  | zero =>
    simp at hj
    subst hj
    exact (Blk.new w t #[.int .u8 (c.toNat : Int)]).cell 0
  | succ j => simp at hj

/-- Values that are rows of bytes, from the block base on, in none that is 'own'. -/
def Els (w : World) (base : Nat) (own : Option Nat) (vs : List Value) (ls : List (List UInt8)) : Prop :=
  vs.length = ls.length ∧ ∀ (i : Nat) l, ls[i]? = some l → ∃ A c, vs[i]? = some (.slice A l.length c) ∧ l.length ≤ c ∧ Rd w A l.length l ∧ (A = none → c = 0) ∧ ∀ ad, A = some ad → base ≤ ad.block ∧ own ≠ some ad.block
def Lst (w : World) (base : Nat) (v : Value) (ls : List (List UInt8)) : Prop := ∃ vs, w.ownsRow base 46 1 v ls.length vs ∧ Els w base v.ownBlock vs ls

set_option maxRecDepth 100000 in
theorem Els.keep {F : Nat → Prop} {w w' : World} {base : Nat} {own : Option Nat} {vs : List Value} {ls : List (List UInt8)} (h : Els w base own vs ls) (f : Fr F w w') (hF : ∀ j, base ≤ j → some j ≠ own → ¬ F j) : Els w' base own vs ls := by
  refine ⟨h.1, fun i l hi => ?_⟩
  obtain ⟨A, c, h1, h2, h3, h5, h4⟩ := h.2 i l hi
  exact ⟨A, c, h1, h2, h3.keep f (fun ad e => hF _ (h4 ad e).1 (fun q => (h4 ad e).2 q.symm)), h5, h4⟩
set_option maxRecDepth 100000 in
theorem Lst.keep {F : Nat → Prop} {w w' : World} {base : Nat} {v : Value} {ls : List (List UInt8)} (h : Lst w base v ls) (f : Fr F w w') (hF : ∀ j, base ≤ j → ¬ F j) : Lst w' base v ls := by
  obtain ⟨vs, h1, h2⟩ := h
  exact ⟨vs, own_keep h1 f (fun k hk => hF _ (h1.lt k hk).1), h2.keep f (fun j hj _ => hF j hj)⟩
set_option maxRecDepth 100000 in
theorem Lst.new {w w' : World} {base : Nat} {v : Value} {ls : List (List UInt8)} (h : Lst w base v ls) (f : Fr (fun _ => False) w w') : Lst w' base v ls := h.keep f (fun _ _ q => q)
set_option maxRecDepth 100000 in
theorem Lst.nil (w : World) (base : Nat) : Lst w base (.slice none 0 0) [] := ⟨[], World.ownsRow_nil _ _ _ _, rfl, fun i l hi => by simp at hi⟩
set_option maxRecDepth 100000 in
theorem Lst.form {w : World} {base : Nat} {v : Value} {ls : List (List UInt8)} (h : Lst w base v ls) : ∃ A c, v = .slice A ls.length c ∧ ls.length ≤ c ∧ c ≤ maxLen := by
  obtain ⟨vs, h1, _⟩ := h
  exact own_slice h1
set_option maxRecDepth 100000 in
theorem Els.app {w : World} {base : Nat} {own : Option Nat} {vs us : List Value} {ls ms : List (List UInt8)} (h : Els w base own vs ls) (k : Els w base own us ms) : Els w base own (vs ++ us) (ls ++ ms) := by
  refine ⟨by simp [h.1, k.1], fun i l hi => ?_⟩
  by_cases hlt : i < ls.length
  · rw [List.getElem?_append_left hlt] at hi
    rw [List.getElem?_append_left (by rw [h.1]; exact hlt)]
    exact h.2 i l hi
  · rw [List.getElem?_append_right (by omega)] at hi
    rw [List.getElem?_append_right (by rw [h.1]; omega), h.1]
    exact k.2 _ l hi
/-- None of them is empty. -/
def Full (ls : List (List UInt8)) : Prop := ∀ l ∈ ls, 0 < l.length
set_option maxRecDepth 100000 in
theorem Els.own {w : World} {base : Nat} {own own' : Option Nat} {vs : List Value} {ls : List (List UInt8)} (h : Els w base own vs ls) (ho : own' = own ∨ own' = some w.heap.size) (hz : Full ls) : Els w base own' vs ls := by
  refine ⟨h.1, fun i l hi => ?_⟩
  obtain ⟨A, c, h1, h2, h3, h5, h4⟩ := h.2 i l hi
  refine ⟨A, c, h1, h2, h3, h5, fun ad e => ⟨(h4 ad e).1, ?_⟩⟩
  rcases ho with rfl | rfl
  · exact (h4 ad e).2
  · intro q
    obtain ⟨ad', e', hlt⟩ := h3.lt (hz l (List.mem_of_getElem? hi))
    rw [e] at e'
    injection e' with e'
    subst e'
    injection q with q
    omega

set_option maxRecDepth 100000 in
theorem Lst.mono {w : World} {base base' : Nat} {v : Value} {ls : List (List UInt8)} (h : Lst w base v ls) (hb : base' ≤ base) : Lst w base' v ls := by
  obtain ⟨vs, h1, h2⟩ := h
  refine ⟨vs, ⟨h1.1, ?_⟩, h2.1, fun i l hi => ?_⟩
  · rcases h1.2 with q | ⟨g, cap, cur, e, hg, rest⟩
    · exact .inl q
    · exact .inr ⟨g, cap, cur, e, Nat.le_trans hb hg, rest⟩
  · obtain ⟨A, c, k1, k2, k3, k5, k4⟩ := h2.2 i l hi
    exact ⟨A, c, k1, k2, k3, k5, fun ad e => ⟨Nat.le_trans hb (k4 ad e).1, (k4 ad e).2⟩⟩
set_option maxRecDepth 100000 in
theorem Lst.lt {w : World} {base : Nat} {v : Value} {ls : List (List UInt8)} (h : Lst w base v ls) : ∀ k, v.ownBlock = some k → base ≤ k ∧ k < w.heap.size := by
  obtain ⟨vs, h1, h2⟩ := h
  exact h1.lt
set_option maxRecDepth 100000 in
/-- Rows of one's own, of unlike types, lie in unlike blocks. -/
theorem own_apart2 {w : World} {base base' e e' size size' n n' : Nat} {v v' : Value} {xs xs' : List Value} (h : w.ownsRow base e size v n xs) (k : w.ownsRow base' e' size' v' n' xs') (hne : e ≠ e') : v.ownBlock = none ∨ v.ownBlock ≠ v'.ownBlock := by
  rcases h.2 with ⟨rfl, _⟩ | ⟨g, cap, cur, rfl, _, hg, _⟩
  · exact .inl rfl
  · right
    rcases k.2 with ⟨rfl, _⟩ | ⟨g', cap', cur', rfl, _, hg', _⟩
    · simp [Value.ownBlock]
    · intro q
      have : g = g' := by simpa [Value.ownBlock] using q
      subst this
      exact Blk.ne_ (t := e) hg hg' hne rfl
set_option maxRecDepth 100000 in
theorem Lst.apart {w : World} {base base' size n : Nat} {e : TypeId} {v v' : Value} {ls : List (List UInt8)} {xs : List Value} (k : Lst w base' v' ls) (h : w.ownsRow base e size v n xs) (hne : e ≠ 46) : v.ownBlock = none ∨ v.ownBlock ≠ v'.ownBlock := by
  obtain ⟨vs, h1, _⟩ := k
  exact own_apart2 h h1 hne
set_option maxRecDepth 100000 in
/-- 's[i:j]' of bytes. -/
theorem slice_part {w : World} {A : Option Addr} {n c : Nat} {l : List UInt8} (hr : Rd w A n l) (hnc : n ≤ c) (i j : Nat) (hij : i < j) (hj : j ≤ n) :
    ∃ ad, A = some ad ∧ (∀ W, (Instr.slice 46 (.slice A n c) (some (.int .i64 (i : Int))) (some (.int .i64 (j : Int))) none).run Tryz.prog W = .ok (.slice (some (ad.add i)) (j - i) (c - i)) W) ∧ Rd w (some (ad.add i)) (j - i) ((l.drop i).take (j - i)) := by
  have h1 := (hr.drop (k := i) (by omega) hnc).take (k := j - i) (by omega)
  obtain ⟨ad, c0, rfl, _, _⟩ := hr.at_ (k := i) (by omega)
  rw [if_neg (by omega)] at h1
  refine ⟨ad, rfl, fun W => ?_, h1⟩
  rw [run_slice_lh W 46 (some ad) n c (by kernel_rfl) .i64 .i64 i j (by omega) (by omega) (by omega)]
  have hz : ∀ w, (sizeOf (Tryz.prog.elem 46)).run Tryz.prog w = .ok 1 w := fun w => by
    obtain ⟨i0, hi, hz0, hz1, hz2⟩ := info_parts infoU8
    have e : Tryz.prog.elem 46 = 5 := by kernel_rfl
    rw [e]
    simp [sizeOf, typeInfo, hi, hz1]
  rw [hz]
  have : (((j : Int) - (i : Int)).toNat) = j - i := by omega
  have hci : c ≠ i := by omega
  simp [Result.andThen, sliced, this, hci]

set_option maxRecDepth 100000 in
theorem Els.one {w : World} {base : Nat} {own : Option Nat} {A : Option Addr} {c k : Nat} {l : List UInt8} (hk : l.length = k) (hc : k ≤ c) (hr : Rd w A k l) (h5 : A = none → c = 0) (h4 : ∀ ad, A = some ad → base ≤ ad.block ∧ own ≠ some ad.block) : Els w base own [.slice A k c] [l] := by
  subst hk
  refine ⟨rfl, fun i l' hi => ?_⟩
  cases i with
  | zero =>
    simp at hi
    subst hi
    exact ⟨A, c, rfl, hc, hr, h5, h4⟩
  | succ i => simp at hi

section
variable {ops : Array Oper} {o : Oper} {a : Act} {Q : Exit → Act → World → Prop}
set_option maxRecDepth 100000 in
theorem step_append_bytes {w : World} {K : Act → World → Prop} {E : Prop} (hg : o.guard = none) (s x : Operand) (hop : o.op = Op.call { callee := Callee.builtin Builtin.append, args := #[s, x], argTypes := #[46, 46] })
    (base : Nat) (v : Value) (xs l : List UInt8) (hs : a.eval s = v) (hown : w.ownsRow base 5 1 v xs.length (cellsB xs)) (A : Option Addr) (m c : Nat) (hx : a.eval x = .slice A m c) (hr : Rd w A m l)
    (hb : xs.length + m ≤ 140737488355328) (hbase : base ≤ w.heap.size)
    (hK : ∀ v' w', w'.ownsRow base 5 1 v' (xs ++ l).length (cellsB (xs ++ l)) → w.grownBy w' v.ownBlock → (v'.ownBlock = v.ownBlock ∨ v'.ownBlock = some w.heap.size) → K (a.put o.dst v') w') : if Region.wanted o (yielded ops a.tmps) = true then Oper.wp Tryz.prog o a w K Q else E := by
  obtain ⟨i0, hi, hz0, hz1, hz2⟩ := info_parts infoU8
  have hw : Region.wanted o (yielded ops a.tmps) = true := by simp [Region.wanted, hg]
  rw [if_pos hw]
  obtain ⟨v', w', hrun, h2, h3, h4⟩ := run_append_bytes (P := Tryz.prog) w base 46 o.type 5 i0 (.int .u8 0) Tryz.underlying46 hi hz0 hz1 hz2 rfl v xs l hown A m c hr hb hbase
  unfold Oper.wp
  simp [execOp, hop, resolve, invoke, builtin, hs, hx, hrun, Result.andThen]
  exact hK v' w' h2 h3 h4
set_option maxRecDepth 100000 in
theorem wpList_more {rest : List Oper} {w : World} (hg : o.guard = none) (s x : Operand) (hop : o.op = Op.call { callee := Callee.builtin Builtin.append, args := #[s, x], argTypes := #[46, 46] })
    (base : Nat) (v : Value) (xs l : List UInt8) (hs : a.eval s = v) (hown : w.ownsRow base 5 1 v xs.length (cellsB xs)) (A : Option Addr) (m c : Nat) (hx : a.eval x = .slice A m c) (hr : Rd w A m l)
    (hb : xs.length + m ≤ 140737488355328) (hbase : base ≤ w.heap.size)
    (hK : ∀ v' w', w'.ownsRow base 5 1 v' (xs ++ l).length (cellsB (xs ++ l)) → w.grownBy w' v.ownBlock → (v'.ownBlock = v.ownBlock ∨ v'.ownBlock = some w.heap.size) → wpList Tryz.prog ops Q rest (a.put o.dst v') w') : wpList Tryz.prog ops Q (o :: rest) a w := by
  obtain ⟨i0, hi, hz0, hz1, hz2⟩ := info_parts infoU8
  exact wpList_append_bytes w hg s x 46 hop base 5 i0 (.int .u8 0) Tryz.underlying46 hi hz0 hz1 hz2 rfl v xs l hs hown A m c hx hr hb hbase hK
end
end Go.Proofs.YtpdfpnpkbknhnaaGreat

namespace Go.Proofs.YtpdfpnpkbknhnaaGreat
open Go.RowKit

set_option maxRecDepth 100000 in
theorem numOf_snoc (l : List UInt8) (c : UInt8) : numOf (l ++ [c]) = numOf l * 256 + c.toNat := by
  rw [numOf_app]
  simp [numOf]
section
variable {ops : Array Oper} {o : Oper} {a : Act} {Q : Exit → Act → World → Prop}
end
end Go.Proofs.YtpdfpnpkbknhnaaGreat

namespace Go.Proofs.YtpdfpnpkbknhnaaGreat
open Go.RowKit Go.Maps

/-- A disk in memory, all of whose blocks lie in P, from B on. -/
def DAt (w : World) (B : Nat) (P : Nat → Prop) (g : Nat) (d : DS) : Prop := (∃ R M D val, DiskW w P g R M D val d) ∧ ∀ b, P b → B ≤ b ∧ b < w.heap.size
section
variable {w w' : World} {B g : Nat} {P G : Nat → Prop} {d : DS}
set_option maxRecDepth 100000 in
theorem DAt.keep (h : DAt w B P g d) (f : Fr G w w') (hG : ∀ i, P i → ¬ G i) : DAt w' B P g d := by
  obtain ⟨⟨R, M, D, val, h1⟩, h2⟩ := h
  exact ⟨⟨R, M, D, val, h1.keep f hG⟩, fun b hb => ⟨(h2 b hb).1, Nat.lt_of_lt_of_le (h2 b hb).2 f.size⟩⟩
set_option maxRecDepth 100000 in
theorem DAt.new (h : DAt w B P g d) (f : Fr (fun _ => False) w w') : DAt w' B P g d := h.keep f (fun _ _ q => q)
set_option maxRecDepth 100000 in
/-- Its footprint made small: just blocks that there are. -/
theorem DAt.of (h : ∃ R M D val, DiskW w' (fun b => P b ∨ w.heap.size ≤ b) g R M D val d) (hB : B ≤ w.heap.size) (hP : ∀ b, P b → B ≤ b ∧ b < w.heap.size) (hs : w.heap.size ≤ w'.heap.size) :
    ∃ P', DAt w' B P' g d ∧ ∀ b, P' b → P b ∨ w.heap.size ≤ b := by
  obtain ⟨R, M, D, val, h⟩ := h
  refine ⟨fun b => (P b ∨ w.heap.size ≤ b) ∧ b < w'.heap.size, ⟨⟨R, M, D, val, ?_⟩, fun b hb => ⟨?_, hb.2⟩⟩, fun b hb => hb.1⟩
  · exact { h with
      fg := ⟨h.fg, h.lt.1⟩
      fR := ⟨h.fR, h.lt.2.1⟩
      fM := ⟨h.fM, h.lt.2.2⟩
      own := fun i b hi hv hb => ⟨⟨(h.own i b hi hv hb).1, h.own_lt hi hv hb⟩, (h.own i b hi hv hb).2⟩ }
  · rcases hb.1 with q | q
    · exact (hP b q).1
    · omega
set_option maxRecDepth 100000 in
theorem DAt.of_same (h : ∃ R M D val, DiskW w' P g R M D val d) (hP : ∀ b, P b → B ≤ b ∧ b < w.heap.size) (hs : w.heap.size ≤ w'.heap.size) : DAt w' B P g d :=
  ⟨h, fun b hb => ⟨(hP b hb).1, Nat.lt_of_lt_of_le (hP b hb).2 hs⟩⟩
set_option maxRecDepth 100000 in
theorem DAt.g_lt (h : DAt w B P g d) : P g ∧ B ≤ w.heap.size := by
  obtain ⟨⟨R, M, D, val, h1⟩, h2⟩ := h
  have := h2 g h1.fg
  exact ⟨h1.fg, by omega⟩

/-- A write; a flush. -/
def DS.alive (d : DS) : Bool := !deadS d.fu d.lf d.dd
def DS.write (d : DS) (i : Nat) (s : List UInt8) : DS := if d.alive then d.step.put i (if d.vs i = [] then [d.rd.getD i []] else d.vs i) s else d.step
def DS.flushed (d : DS) : DS := if d.alive then d.flush else d.step
def DS.most (d : DS) (N : Nat) : Prop := ∀ i, (d.vs i).length ≤ N
set_option maxRecDepth 100000 in
theorem write_most {N i : Nat} {s : List UInt8} (h : d.most N) (h1 : 1 ≤ N) : (d.write i s).most (N + 1) := by
  intro j
  unfold DS.write
  split
  · simp only [DS.put]
    split
    · split
      · simp; omega
      · have := h i
        simp; omega
    · exact Nat.le_succ_of_le (h j)
  · exact Nat.le_succ_of_le (h j)
set_option maxRecDepth 100000 in
theorem flushed_most {N : Nat} (h : d.most N) : d.flushed.most N := by
  intro j
  unfold DS.flushed
  split
  · simp [DS.flush]
  · exact h j
set_option maxRecDepth 100000 in
theorem write_len {i : Nat} {s : List UInt8} : (d.write i s).rd.length = d.rd.length := by
  unfold DS.write
  split <;> simp [DS.put, DS.step]
set_option maxRecDepth 100000 in
theorem flushed_len : d.flushed.rd.length = d.rd.length := by
  unfold DS.flushed
  split <;> simp [DS.flush, DS.step]

set_option maxRecDepth 100000 in
theorem awrite_any (h : DAt w B P g d) {i : Nat} (hi : i < d.rd.length) {s : List UInt8} (hs : s.length = 128) (hN : (d.vs i).length ≤ 10000) :
    Calls Tryz.prog 89 #[.pointer (some ⟨g, 0, none⟩), .int .i64 i, av s] w fun e w' => e = .returned (.int .i64 (if d.alive then 0 else 10)) ∧ (∃ P', DAt w' B P' g (d.write i s) ∧ ∀ b, P' b → P b ∨ w.heap.size ≤ b) ∧ Fr P w w' := by
  have hB := h.g_lt.2
  obtain ⟨⟨R, M, D, val, h1⟩, h2⟩ := h
  unfold DS.write DS.alive
  cases hd : deadS d.fu d.lf d.dd with
  | true =>
    refine (dwrite_dead h1 hi hd).mono ?_
    rintro e w1 ⟨rfl, k1, f1⟩
    exact ⟨rfl, ⟨P, DAt.of_same ⟨R, M, D, val, k1⟩ h2 f1.size, fun b hb => .inl hb⟩, f1⟩
  | false =>
    have hx : d.rd[i]? = some (d.rd.getD i []) := by simp [hi]
    refine (dwrite_any h1 hi hs hx hN hd).mono ?_
    rintro e w1 ⟨rfl, ⟨D', val', k1⟩, f1⟩
    exact ⟨rfl, DAt.of ⟨R, M, D', val', k1⟩ hB h2 f1.size, f1⟩
set_option maxRecDepth 100000 in
theorem awrite_bad (h : DAt w B P g d) {i : Int} (hi : i < 0 ∨ (d.rd.length : Int) ≤ i) {s : List UInt8} :
    Calls Tryz.prog 89 #[.pointer (some ⟨g, 0, none⟩), .int .i64 i, av s] w fun e w' => e = .returned (.int .i64 2) ∧ Fr (fun _ => False) w w' := by
  obtain ⟨⟨R, M, D, val, h1⟩, h2⟩ := h
  refine write_err (by omega) fun w1 hf => ?_
  have := has_any (h1.blk.keep hf (fun q => q)) i
  have he : hasE d.rd.length i = 2 := by unfold hasE; rw [if_neg (by have := h1.n0; omega), if_pos hi]
  rw [he] at this
  exact this
set_option maxRecDepth 100000 in
theorem aflush_any (h : DAt w B P g d) :
    Calls Tryz.prog 90 #[.pointer (some ⟨g, 0, none⟩)] w fun e w' => e = .returned (.int .i64 (if d.alive then 0 else 10)) ∧ DAt w' B P g d.flushed ∧ Fr P w w' := by
  obtain ⟨⟨R, M, D, val, h1⟩, h2⟩ := h
  unfold DS.flushed DS.alive
  cases hd : deadS d.fu d.lf d.dd with
  | true =>
    refine (dflush_dead h1 hd).mono ?_
    rintro e w1 ⟨rfl, k1, f1⟩
    exact ⟨rfl, DAt.of_same ⟨R, M, D, val, k1⟩ h2 f1.size, f1⟩
  | false =>
    refine (dflush_any h1 hd).mono ?_
    rintro e w1 ⟨rfl, ⟨D', k1⟩, f1⟩
    exact ⟨rfl, DAt.of_same ⟨R, M, D', val, k1⟩ h2 f1.size, f1⟩
set_option maxRecDepth 100000 in
theorem afuse_any (h : DAt w B P g d) (k : Int) (h0 : ¬ k < 0) (h1 : k ≤ 9223372036854775807) :
    Calls Tryz.prog 11 #[.pointer (some ⟨g, 0, none⟩), .int .i64 k] w fun e w' => e = .returned (.int .i64 0) ∧ DAt w' B P g { d with fu := true, lf := k } ∧ Fr P w w' := by
  obtain ⟨⟨R, M, D, val, k1⟩, k2⟩ := h
  refine (dfuse_any k1 k h0 h1).mono ?_
  rintro e w1 ⟨rfl, j1, f1⟩
  have f2 : Fr P w w1 := f1.mono (fun i _ e => by have e' : i = g := e; rw [e']; exact k1.fg)
  exact ⟨rfl, DAt.of_same ⟨R, M, D, val, j1⟩ k2 f1.size, f2⟩
set_option maxRecDepth 100000 in
theorem adead_any (h : DAt w B P g d) : Calls Tryz.prog 34 #[.pointer (some ⟨g, 0, none⟩)] w fun e w' => e = .returned (.bool d.dd) ∧ w = w' := by
  obtain ⟨⟨R, M, D, val, k1⟩, k2⟩ := h
  have := dead_any k1.blk
  rw [decide_eq_false (by have := k1.n0; omega)] at this
  simpa using this
set_option maxRecDepth 100000 in
theorem aread_any (h : DAt w B P g d) {k : Nat} (hk : k < d.rd.length) : Calls Tryz.prog 116 #[.pointer (some ⟨g, 0, none⟩), .int .i64 k] w fun e w' => e = .returned (.tuple #[av (d.rd.getD k []), .int .i64 0]) ∧ Fr (fun _ => False) w w' := by
  obtain ⟨⟨R, M, D, val, k1⟩, k2⟩ := h
  exact dread_any k1 (by simp [hk])
set_option maxRecDepth 100000 in
theorem aread_bad (h : DAt w B P g d) {i : Int} (hi : i < 0 ∨ (d.rd.length : Int) ≤ i) : Calls Tryz.prog 116 #[.pointer (some ⟨g, 0, none⟩), .int .i64 i] w fun e w' => e = .returned (.tuple #[av (nought 128), .int .i64 2]) ∧ Fr (fun _ => False) w w' := by
  obtain ⟨⟨R, M, D, val, k1⟩, k2⟩ := h
  exact dread_bad k1 hi
set_option maxRecDepth 100000 in
theorem acrash_any (h : DAt w B P g d) {vp : Value} {picks : List Int} (hp : IntsAt w vp picks) (hpF : ∀ b, vp.ownBlock = some b → ¬ P b) (hN : d.most 1000000) :
    Calls Tryz.prog 13 #[.pointer (some ⟨g, 0, none⟩), vp] w fun e w' => e = .returned (.int .i64 0) ∧ DAt w' B P g (d.crash picks) ∧ Fr P w w' := by
  obtain ⟨⟨R, M, D, val, k1⟩, k2⟩ := h
  refine (dcrash_any k1 hp (fun b hb => ⟨fun e => hpF b hb (e ▸ k1.fR), fun e => hpF b hb (e ▸ k1.fM)⟩) (fun i _ => hN i)).mono ?_
  rintro e w1 ⟨rfl, ⟨D', j1⟩, f1⟩
  exact ⟨rfl, DAt.of_same ⟨R, M, D', val, j1⟩ k2 f1.size, f1⟩
end

end Go.Proofs.YtpdfpnpkbknhnaaGreat

