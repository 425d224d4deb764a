/- Tickets that come in. -/
import Derived.Test.YtmopkfjnjbimnaaKsu
import Derived.Deep.Strs
namespace Go.Proofs.Ytmopkfjnjbimnaa
open Go.ChangeShapes Go.WideShapes Go.ChangeAt Go.RowKit

/-- A step of the law's: of which coupon, on which day, to which status, with what. -/
structure StpD where
  cp : Int
  dy : Int
  tw : Int
  wi : Nat
deriving DecidableEq
structure StpOk (x : StpD) : Prop where
  cp : i64B x.cp
  dy : i64B x.dy
  tw : i64B x.tw
  wi : u64B x.wi
abbrev stpC (x : StpD) : List Value := [.int .i64 x.cp, .int .i64 x.dy, .int .i64 x.tw, .int .u64 (x.wi : Nat)]
theorem stpC_len (x : StpD) : (stpC x).length = 4 := rfl
theorem nat_of_wf' {a : Int} (h : (Lit.int .u64 a).wf = true) : ∃ n : Nat, a = n ∧ n < 18446744073709551616 := by
  have hx : 0 ≤ a ∧ a ≤ 18446744073709551615 := by simpa [Lit.wf, IntKind.min, IntKind.max, IntKind.signed, IntKind.bits] using h
  exact ⟨a.toNat, by omega, by omega⟩
theorem cells1_int : Try.prog.cellsOf 3 = 1 := by kernel_rfl
theorem cells1_int64 : Try.prog.cellsOf 2 = 1 := by kernel_rfl
theorem cells1_uint64 : Try.prog.cellsOf 22 = 1 := by kernel_rfl
theorem cells1_Status : Try.prog.cellsOf 41 = 1 := by kernel_rfl
theorem cells1_string : Try.prog.cellsOf 9 = 1 := by kernel_rfl
theorem cells1_cs : Try.prog.cellsOf 23 = 1 := by kernel_rfl
theorem cells1_xs : Try.prog.cellsOf 24 = 1 := by kernel_rfl
theorem cells1_es : Try.prog.cellsOf 25 = 1 := by kernel_rfl
theorem cells_cp : Try.prog.cellsOf 49 = 6 := by kernel_rfl
theorem cells_tx : Try.prog.cellsOf 62 = 2 := by kernel_rfl
theorem cells_stp : Try.prog.cellsOf 43 = 4 := by kernel_rfl
theorem cells_ev : Try.prog.cellsOf 51 = 4 := by kernel_rfl
section
variable {H : Type} {enc : TypeId × Value → H} {w : World}
set_option maxRecDepth 100000 in
/-- A list of structs that came in. -/
theorem open_rw {α : Type} {TS TT : TypeId} {k : Nat} {en : α → List Value} {Pd : α → Prop} (hu : Try.prog.underlying TS = some (.slice TT)) (hck : Try.prog.cellsOf TT = k) (hk0 : 0 < k) (hek : ∀ a, (en a).length = k)
    (hel : ∀ (fuel : Nat) (cs : List Value) (x : DataW H × List MemPlace), cs.length = k → DataW.trod enc Try.prog w 0 (fun _ => true) true fuel TT cs = some x → ∃ a : α, cs = en a ∧ Pd a)
    {fuel : Nat} {cs : List Value} {x : DataW H × List MemPlace} (hf : DataW.trod enc Try.prog w 0 (fun _ => true) true fuel TS cs = some x) : ∃ v xs, cs = [v] ∧ RwV w k en v xs ∧ ∀ a ∈ xs, Pd a := by
  rcases Deep.open_slice hu hf with ⟨rfl, _⟩ | ⟨a, len, cap, m, n, D, Pl, rfl, _, hl, hcm, hm, _, hi⟩
  · exact ⟨_, [], rfl, RwV.nil _ _ _, fun a h => by simp at h⟩
  · simp only [if_true] at hm
    rcases Nat.eq_zero_or_pos len with h0 | hpos
    · refine ⟨_, [], rfl, ⟨some a, cap, by rw [h0]; rfl, by simp, hcm, fun h => absurd h (by simp)⟩, fun a h => by simp at h⟩
    · obtain ⟨xs, hxl, hx⟩ := list_of (Q := fun i (p : α) => Pd p ∧ ∀ j u, (en p)[j]? = some u → w.cell? (a.add (i * k + j)) = some u) len (fun i hil => by
        obtain ⟨cs', hc, ht⟩ := hi i (by omega)
        rw [hck] at hc
        obtain ⟨_, hlen, hat⟩ := World.cells?_some hc
        obtain ⟨p, hp, hpd⟩ := hel _ _ _ hlen ht
        refine ⟨p, hpd, fun j u hu => ?_⟩
        have hj : j < k := by rw [← hek p]; exact (List.getElem?_eq_some_iff.1 hu).1
        have := hat j hj
        rw [add_add, hp, hu] at this
        exact this)
      obtain ⟨x0, hx0⟩ : ∃ x, xs[0]? = some x := ⟨_, List.getElem?_eq_getElem (by omega)⟩
      have hen : 0 < (en x0).length := by rw [hek]; exact hk0
      have h1 := (hx 0 x0 hx0).2 0 _ (List.getElem?_eq_getElem hen)
      rw [Nat.zero_mul, Nat.add_zero, show a.add 0 = a by simp [Addr.add]] at h1
      have hpl := plain_addr (a := a) h1
      obtain ⟨b, off, sp⟩ := a
      obtain rfl : sp = none := by injection hpl
      subst hxl
      refine ⟨_, xs, rfl, ⟨some ⟨b, off, none⟩, cap, rfl, hl, hcm, fun _ => ⟨b, off, rfl, fun i x j u hix hu => ?_⟩⟩, fun p hp => ?_⟩
      · have := (hx i x hix).2 j u hu
        rw [add_plain] at this
        rw [Nat.add_assoc]
        exact this
      · obtain ⟨i, hi'⟩ := List.mem_iff_getElem?.1 hp
        exact (hx i p hi').1
theorem und_cp : Try.prog.underlying 49 = some (.struct #[⟨"Flight", 3, 0, false, "", "", 0⟩, ⟨"Day", 3, 1, false, "", "", 8⟩, ⟨"Value", 2, 2, false, "", "", 16⟩, ⟨"Status", 41, 3, false, "", "", 24⟩, ⟨"Holder", 3, 4, false, "", "", 32⟩, ⟨"Next", 22, 5, false, "", "", 40⟩]) := Try.underlying49
set_option maxRecDepth 100000 in
theorem open_cp {fuel : Nat} {cs : List Value} {x : DataW H × List MemPlace} (hl : cs.length = 6) (h : DataW.trod enc Try.prog w 0 (fun _ => true) true fuel 49 cs = some x) : ∃ a : CpD, cs = cpC a ∧ CpOk a := by
  obtain ⟨xs, n, _, _, _, hlen, hf⟩ := DataW.trod_struct und_cp h
  match cs, hl, xs, hlen with
  | [c0, c1, c2, c3, c4, c5], _, [y0, y1, y2, y3, y4, y5], _ =>
    have t0 : DataW.trod enc Try.prog w 0 (fun _ => true) true n 3 [c0] = some y0 := by simpa [cells1_int] using hf 0 _ rfl
    obtain ⟨z0, e0, _, w0⟩ := DataW.trod_int Try.underlying3 t0
    injection e0 with e0
    subst e0
    have t1 : DataW.trod enc Try.prog w 0 (fun _ => true) true n 3 [c1] = some y1 := by simpa [cells1_int] using hf 1 _ rfl
    obtain ⟨z1, e1, _, w1⟩ := DataW.trod_int Try.underlying3 t1
    injection e1 with e1
    subst e1
    have t2 : DataW.trod enc Try.prog w 0 (fun _ => true) true n 2 [c2] = some y2 := by simpa [cells1_int64] using hf 2 _ rfl
    obtain ⟨z2, e2, _, w2⟩ := DataW.trod_int Try.underlying2 t2
    injection e2 with e2
    subst e2
    have t3 : DataW.trod enc Try.prog w 0 (fun _ => true) true n 41 [c3] = some y3 := by simpa [cells1_Status] using hf 3 _ rfl
    obtain ⟨z3, e3, _, w3⟩ := DataW.trod_int Try.underlying41 t3
    injection e3 with e3
    subst e3
    have t4 : DataW.trod enc Try.prog w 0 (fun _ => true) true n 3 [c4] = some y4 := by simpa [cells1_int] using hf 4 _ rfl
    obtain ⟨z4, e4, _, w4⟩ := DataW.trod_int Try.underlying3 t4
    injection e4 with e4
    subst e4
    have t5 : DataW.trod enc Try.prog w 0 (fun _ => true) true n 22 [c5] = some y5 := by simpa [cells1_uint64] using hf 5 _ rfl
    obtain ⟨z5, e5, _, w5⟩ := DataW.trod_int Try.underlying22 t5
    obtain ⟨m5, rfl, b5⟩ := nat_of_wf' w5
    injection e5 with e5
    subst e5
    exact ⟨⟨z0, z1, z2, z3, z4, m5⟩, rfl, ⟨i64_of_wf w0, i64_of_wf w1, i64_of_wf w2, i64_of_wf w3, i64_of_wf w4, b5⟩⟩
theorem und_tx : Try.prog.underlying 62 = some (.struct #[⟨"Code", 3, 0, false, "", "", 0⟩, ⟨"Amount", 2, 1, false, "", "", 8⟩]) := Try.underlying62
set_option maxRecDepth 100000 in
theorem open_tx {fuel : Nat} {cs : List Value} {x : DataW H × List MemPlace} (hl : cs.length = 2) (h : DataW.trod enc Try.prog w 0 (fun _ => true) true fuel 62 cs = some x) : ∃ a : TxD, cs = txC a ∧ TxOk a := by
  obtain ⟨xs, n, _, _, _, hlen, hf⟩ := DataW.trod_struct und_tx h
  match cs, hl, xs, hlen with
  | [c0, c1], _, [y0, y1], _ =>
    have t0 : DataW.trod enc Try.prog w 0 (fun _ => true) true n 3 [c0] = some y0 := by simpa [cells1_int] using hf 0 _ rfl
    obtain ⟨z0, e0, _, w0⟩ := DataW.trod_int Try.underlying3 t0
    injection e0 with e0
    subst e0
    have t1 : DataW.trod enc Try.prog w 0 (fun _ => true) true n 2 [c1] = some y1 := by simpa [cells1_int64] using hf 1 _ rfl
    obtain ⟨z1, e1, _, w1⟩ := DataW.trod_int Try.underlying2 t1
    injection e1 with e1
    subst e1
    exact ⟨⟨z0, z1⟩, rfl, ⟨i64_of_wf w0, i64_of_wf w1⟩⟩
theorem und_ev : Try.prog.underlying 51 = some (.struct #[⟨"Day", 3, 0, false, "", "", 0⟩, ⟨"Coupon", 3, 1, false, "", "", 8⟩, ⟨"From", 41, 2, false, "", "", 16⟩, ⟨"To", 41, 3, false, "", "", 24⟩]) := Try.underlying51
set_option maxRecDepth 100000 in
theorem open_ev {fuel : Nat} {cs : List Value} {x : DataW H × List MemPlace} (hl : cs.length = 4) (h : DataW.trod enc Try.prog w 0 (fun _ => true) true fuel 51 cs = some x) : ∃ a : EvT, cs = evC a ∧ EvtOk a := by
  obtain ⟨xs, n, _, _, _, hlen, hf⟩ := DataW.trod_struct und_ev h
  match cs, hl, xs, hlen with
  | [c0, c1, c2, c3], _, [y0, y1, y2, y3], _ =>
    have t0 : DataW.trod enc Try.prog w 0 (fun _ => true) true n 3 [c0] = some y0 := by simpa [cells1_int] using hf 0 _ rfl
    obtain ⟨z0, e0, _, w0⟩ := DataW.trod_int Try.underlying3 t0
    injection e0 with e0
    subst e0
    have t1 : DataW.trod enc Try.prog w 0 (fun _ => true) true n 3 [c1] = some y1 := by simpa [cells1_int] using hf 1 _ rfl
    obtain ⟨z1, e1, _, w1⟩ := DataW.trod_int Try.underlying3 t1
    injection e1 with e1
    subst e1
    have t2 : DataW.trod enc Try.prog w 0 (fun _ => true) true n 41 [c2] = some y2 := by simpa [cells1_Status] using hf 2 _ rfl
    obtain ⟨z2, e2, _, w2⟩ := DataW.trod_int Try.underlying41 t2
    injection e2 with e2
    subst e2
    have t3 : DataW.trod enc Try.prog w 0 (fun _ => true) true n 41 [c3] = some y3 := by simpa [cells1_Status] using hf 3 _ rfl
    obtain ⟨z3, e3, _, w3⟩ := DataW.trod_int Try.underlying41 t3
    injection e3 with e3
    subst e3
    exact ⟨⟨z0, z1, z2, z3⟩, rfl, ⟨i64_of_wf w0, i64_of_wf w1, i64_of_wf w2, i64_of_wf w3⟩⟩
theorem und_stp : Try.prog.underlying 43 = some (.struct #[⟨"Coupon", 3, 0, false, "", "", 0⟩, ⟨"Day", 3, 1, false, "", "", 8⟩, ⟨"To", 41, 2, false, "", "", 16⟩, ⟨"With", 22, 3, false, "", "", 24⟩]) := Try.underlying43
set_option maxRecDepth 100000 in
theorem open_stp {fuel : Nat} {cs : List Value} {x : DataW H × List MemPlace} (hl : cs.length = 4) (h : DataW.trod enc Try.prog w 0 (fun _ => true) true fuel 43 cs = some x) : ∃ a : StpD, cs = stpC a ∧ StpOk a := by
  obtain ⟨xs, n, _, _, _, hlen, hf⟩ := DataW.trod_struct und_stp h
  match cs, hl, xs, hlen with
  | [c0, c1, c2, c3], _, [y0, y1, y2, y3], _ =>
    have t0 : DataW.trod enc Try.prog w 0 (fun _ => true) true n 3 [c0] = some y0 := by simpa [cells1_int] using hf 0 _ rfl
    obtain ⟨z0, e0, _, w0⟩ := DataW.trod_int Try.underlying3 t0
    injection e0 with e0
    subst e0
    have t1 : DataW.trod enc Try.prog w 0 (fun _ => true) true n 3 [c1] = some y1 := by simpa [cells1_int] using hf 1 _ rfl
    obtain ⟨z1, e1, _, w1⟩ := DataW.trod_int Try.underlying3 t1
    injection e1 with e1
    subst e1
    have t2 : DataW.trod enc Try.prog w 0 (fun _ => true) true n 41 [c2] = some y2 := by simpa [cells1_Status] using hf 2 _ rfl
    obtain ⟨z2, e2, _, w2⟩ := DataW.trod_int Try.underlying41 t2
    injection e2 with e2
    subst e2
    have t3 : DataW.trod enc Try.prog w 0 (fun _ => true) true n 22 [c3] = some y3 := by simpa [cells1_uint64] using hf 3 _ rfl
    obtain ⟨z3, e3, _, w3⟩ := DataW.trod_int Try.underlying22 t3
    obtain ⟨m3, rfl, b3⟩ := nat_of_wf' w3
    injection e3 with e3
    subst e3
    exact ⟨⟨z0, z1, z2, m3⟩, rfl, ⟨i64_of_wf w0, i64_of_wf w1, i64_of_wf w2, b3⟩⟩
theorem und_tk : Try.prog.underlying 27 = some (.struct #[⟨"Number", 22, 0, false, "", "", 0⟩, ⟨"Locator", 9, 1, false, "", "", 8⟩, ⟨"Issued", 3, 2, false, "", "", 24⟩, ⟨"Coupons", 23, 3, false, "", "", 32⟩, ⟨"Taxes", 24, 4, false, "", "", 56⟩, ⟨"Prev", 22, 5, false, "", "", 80⟩, ⟨"Origin", 22, 6, false, "", "", 88⟩, ⟨"First", 22, 7, false, "", "", 96⟩, ⟨"Voucher", 2, 8, false, "", "", 104⟩, ⟨"Posts", 3, 9, false, "", "", 112⟩, ⟨"History", 25, 10, false, "", "", 120⟩]) := Try.underlying27
theorem cells_tk : Try.prog.cellsOf 27 = 11 := by kernel_rfl
set_option maxRecDepth 100000 in
/-- A ticket's cells that came in. -/
theorem open_tk {fuel : Nat} {cs : List Value} {x : DataW H × List MemPlace} (hl : cs.length = 11) (h : DataW.trod enc Try.prog w 0 (fun _ => true) true fuel 27 cs = some x) : ∃ t sc sx se, cs = (tkA t sc sx se).toList ∧ TkV w (tkC t sc sx se) t ∧ TkOk t := by
  obtain ⟨xs, n, _, _, _, hlen, hf⟩ := DataW.trod_struct und_tk h
  match cs, hl, xs, hlen with
  | [c0, c1, c2, c3, c4, c5, c6, c7, c8, c9, c10], _, [y0, y1, y2, y3, y4, y5, y6, y7, y8, y9, y10], _ =>
    have t0 : DataW.trod enc Try.prog w 0 (fun _ => true) true n 22 [c0] = some y0 := by simpa [cells1_uint64] using hf 0 _ rfl
    obtain ⟨z0, e0, _, w0⟩ := DataW.trod_int Try.underlying22 t0
    obtain ⟨m0, rfl, b0⟩ := nat_of_wf' w0
    injection e0 with e0
    subst e0
    have t1 : DataW.trod enc Try.prog w 0 (fun _ => true) true n 9 [c1] = some y1 := by simpa [cells1_string] using hf 1 _ rfl
    obtain ⟨s1, e1, _, w1⟩ := DataW.trod_string Try.underlying9 t1
    injection e1 with e1
    subst e1
    have t2 : DataW.trod enc Try.prog w 0 (fun _ => true) true n 3 [c2] = some y2 := by simpa [cells1_int] using hf 2 _ rfl
    obtain ⟨z2, e2, _, w2⟩ := DataW.trod_int Try.underlying3 t2
    injection e2 with e2
    subst e2
    have t3 : DataW.trod enc Try.prog w 0 (fun _ => true) true n 23 [c3] = some y3 := by simpa [cells1_cs] using hf 3 _ rfl
    obtain ⟨v3, l3, e3, r3, p3⟩ := open_rw Try.underlying23 cells_cp (by omega) cpC_len (fun _ _ _ hl h => open_cp hl h) t3
    injection e3 with e3
    subst e3
    have t4 : DataW.trod enc Try.prog w 0 (fun _ => true) true n 24 [c4] = some y4 := by simpa [cells1_xs] using hf 4 _ rfl
    obtain ⟨v4, l4, e4, r4, p4⟩ := open_rw Try.underlying24 cells_tx (by omega) txC_len (fun _ _ _ hl h => open_tx hl h) t4
    injection e4 with e4
    subst e4
    have t5 : DataW.trod enc Try.prog w 0 (fun _ => true) true n 22 [c5] = some y5 := by simpa [cells1_uint64] using hf 5 _ rfl
    obtain ⟨z5, e5, _, w5⟩ := DataW.trod_int Try.underlying22 t5
    obtain ⟨m5, rfl, b5⟩ := nat_of_wf' w5
    injection e5 with e5
    subst e5
    have t6 : DataW.trod enc Try.prog w 0 (fun _ => true) true n 22 [c6] = some y6 := by simpa [cells1_uint64] using hf 6 _ rfl
    obtain ⟨z6, e6, _, w6⟩ := DataW.trod_int Try.underlying22 t6
    obtain ⟨m6, rfl, b6⟩ := nat_of_wf' w6
    injection e6 with e6
    subst e6
    have t7 : DataW.trod enc Try.prog w 0 (fun _ => true) true n 22 [c7] = some y7 := by simpa [cells1_uint64] using hf 7 _ rfl
    obtain ⟨z7, e7, _, w7⟩ := DataW.trod_int Try.underlying22 t7
    obtain ⟨m7, rfl, b7⟩ := nat_of_wf' w7
    injection e7 with e7
    subst e7
    have t8 : DataW.trod enc Try.prog w 0 (fun _ => true) true n 2 [c8] = some y8 := by simpa [cells1_int64] using hf 8 _ rfl
    obtain ⟨z8, e8, _, w8⟩ := DataW.trod_int Try.underlying2 t8
    injection e8 with e8
    subst e8
    have t9 : DataW.trod enc Try.prog w 0 (fun _ => true) true n 3 [c9] = some y9 := by simpa [cells1_int] using hf 9 _ rfl
    obtain ⟨z9, e9, _, w9⟩ := DataW.trod_int Try.underlying3 t9
    injection e9 with e9
    subst e9
    have t10 : DataW.trod enc Try.prog w 0 (fun _ => true) true n 25 [c10] = some y10 := by simpa [cells1_es] using hf 10 _ rfl
    obtain ⟨v10, l10, e10, r10, p10⟩ := open_rw Try.underlying25 cells_ev (by omega) evC_len (fun _ _ _ hl h => open_ev hl h) t10
    injection e10 with e10
    subst e10
    exact ⟨⟨m0, s1, z2, l3, l4, m5, m6, m7, z8, z9, l10⟩, c3, c4, c10, rfl, ⟨_, _, _, rfl, r3, r4, r10⟩, ⟨b0, w1, i64_of_wf w2, p3, p4, b5, b6, b7, i64_of_wf w8, i64_of_wf w9, p10⟩⟩
theorem open_ticket {v : Value} {d : DataW H} {p : List MemPlace} (hval : ∃ cs, v = .agg cs) (h : DataW.Trod enc Try.prog w 0 (fun _ => true) true 27 v d p) : ∃ t, TkV w v t ∧ TkOk t := by
  obtain ⟨cs, rfl⟩ := hval
  obtain ⟨fuel, hf⟩ := h
  have hf' : DataW.trod enc Try.prog w 0 (fun _ => true) true fuel 27 cs.toList = some (d, p) := hf
  have hl : cs.toList.length = 11 := by
    obtain ⟨_, _, _, _, hl, _⟩ := DataW.trod_struct und_tk hf'
    rw [hl, cells_tk]
  obtain ⟨t, sc, sx, se, e, h1, h2⟩ := open_tk hl hf'
  have : cs = tkA t sc sx se := by
    apply Array.toList_inj.1
    exact e
  subst this
  exact ⟨t, h1, h2⟩
theorem open_steps {v : Value} {d : DataW H} {p : List MemPlace} (hval : ∃ a len cap, v = .slice a len cap) (h : DataW.Trod enc Try.prog w 0 (fun _ => true) true 39 v d p) : ∃ xs, RwV w 4 stpC v xs ∧ ∀ x ∈ xs, StpOk x := by
  obtain ⟨a0, len0, cap0, rfl⟩ := hval
  obtain ⟨fuel, hf⟩ := h
  obtain ⟨v, xs, e, h1, h2⟩ := open_rw Try.underlying39 cells_stp (by omega) stpC_len (fun _ _ _ hl h => open_stp hl h) hf
  have e' : v = .slice a0 len0 cap0 := by simp [Value.cells] at e; exact e.symm
  subst e'
  exact ⟨xs, h1, h2⟩
theorem open_step {v : Value} {d : DataW H} {p : List MemPlace} (hval : ∃ cs, v = .agg cs) (h : DataW.Trod enc Try.prog w 0 (fun _ => true) true 43 v d p) : ∃ x, v = .agg (stpC x).toArray ∧ StpOk x := by
  obtain ⟨cs, rfl⟩ := hval
  obtain ⟨fuel, hf⟩ := h
  have hf' : DataW.trod enc Try.prog w 0 (fun _ => true) true fuel 43 cs.toList = some (d, p) := hf
  have hl : cs.toList.length = 4 := by
    obtain ⟨_, _, _, _, hl, _⟩ := DataW.trod_struct und_stp hf'
    rw [hl, cells_stp]
  obtain ⟨x, e, h2⟩ := open_stp hl hf'
  refine ⟨x, ?_, h2⟩
  rw [← e]
end
set_option maxRecDepth 100000 in
theorem okWide_step {w : World} {r : Reach} {base : Nat} {v : Value} (h : Value.okWide Try.prog w r base 43 v) : ∃ cs, v = .agg cs := by
  simp only [Value.okWide, Try.underlying43] at h
  obtain ⟨cs, h1, _⟩ := h
  exact ⟨cs, h1⟩
set_option maxRecDepth 100000 in
theorem okWide_ticket {w : World} {r : Reach} {base : Nat} {v : Value} (h : Value.okWide Try.prog w r base 27 v) : ∃ cs, v = .agg cs := by
  simp only [Value.okWide, Try.underlying27] at h
  obtain ⟨cs, h1, _⟩ := h
  exact ⟨cs, h1⟩
end Go.Proofs.Ytmopkfjnjbimnaa
