/- together: the pieces of the halves that sectors begin with. -/
import Derived.Test.YtbnegiiombnnaaaSpl
import Derived.Test.YtbnegiiombnnaaaTag
namespace Go.Proofs.Ytbnegiiombnnaaa
open Go.RowKit
attribute [local go_sem] Oper.semAt_some

theorem results_tog {tmps : Array Value} {w : World} {g2 g3 : Nat} {x y v : Value} (h2 : tmps.getD 2 undef = .pointer (some ⟨g2, 0, none⟩)) (h3 : tmps.getD 3 undef = .pointer (some ⟨g3, 0, none⟩))
    (b2 : Blk w g2 24 #[x, y]) (b3 : Blk w g3 25 #[v]) : (results Try.f28 tmps).run Try.prog w = .ok (.tuple #[.agg #[x, y], v]) w := by
  have e2 := run_loadVar_row (P := Try.prog) w g2 24 24 #[x, y] (0, 0) _ b2 Try.underlying24 rfl infoTag
  have c3 := b3.cell 0
  simp at c3
  have h2' : tmps[2]?.getD undef = .pointer (some ⟨g2, 0, none⟩) := by simpa using h2
  have h3' : tmps[3]?.getD undef = .pointer (some ⟨g3, 0, none⟩) := by simpa using h3
  have e3 : (loadVar 25 ⟨g3, 0, none⟩).run Try.prog w = .ok v w := by go_simp
  simp [results, Try.f28, h2', h3', asAddr, e2, e3]

/-- The k-th half of sectors. -/
def hv (ss : List (List UInt8)) (k : Nat) : List UInt8 := ((ss[k / 2]?.getD (nought 128)).drop (64 * (k % 2))).take 64
theorem hv_len {ss : List (List UInt8)} (hs : ∀ s ∈ ss, s.length = 128) (k : Nat) : (hv ss k).length = 64 := by
  have h1 : (ss[k / 2]?.getD (nought 128)).length = 128 := by
    cases h : ss[k / 2]? with
    | none => simp [nought]
    | some s => exact hs s (List.mem_of_getElem? h)
  unfold hv
  rw [List.length_take, List.length_drop, h1]
  omega
def fhOf (ss : List (List UInt8)) (hs : ∀ s ∈ ss, s.length = 128) (h0 : 0 < 2 * ss.length) (k : Nat) : Pl (2 * ss.length) 64 :=
  if h : k < 2 * ss.length then ⟨(k, hv ss k), h, hv_len hs k⟩ else ⟨(0, nought 64), h0, by simp [nought]⟩
theorem fhOf_at {ss : List (List UInt8)} (hs : ∀ s ∈ ss, s.length = 128) (h0 : 0 < 2 * ss.length) {k : Nat} (h : k < 2 * ss.length) : (fhOf ss hs h0 k).1.1 = k ∧ (fhOf ss hs h0 k).1.2 = hv ss k := by
  unfold fhOf
  rw [dif_pos h]
  exact ⟨rfl, rfl⟩
theorem halves_stops (F : Nat → Prop) (Bs b off cap : Nat) (ss : List (List UInt8)) (hs : ∀ s ∈ ss, s.length = 128) (h0 : 0 < 2 * ss.length) (hreach : ss.length ≤ 1099511627776) (hb : ¬ F b) (hBn : ¬ F Bs) (w : World)
    (hBs : Blk w Bs 27 #[.slice (some ⟨b, off, none⟩) ss.length cap]) (hsec : SecsAt w b off ss) :
    SeqStopsK Fence.wide 9 Try.prog 40 #[.pointer (some ⟨Bs, 0, none⟩)] (encPl (N := 2 * ss.length) (sz := 64)) (Fr F) (fun ys => ys = upto (fhOf ss hs h0) (2 * ss.length)) (fun pre => ∃ k, k ≤ 2 * ss.length ∧ pre = upto (fhOf ss hs h0) k) (2 * ss.length) w := fun l J Jx W hW hJ _ hY hj => by
  have hf : Fr (fun _ => False) w W := Fr.of_below hW
  have hc := (hBs.keep hf (fun q => q)).cell 0
  have hsec' : SecsAt W b off ss := fun i s hi => ⟨(hsec i s hi).1, fun j v hv => by
    have h1 := (hsec i s hi).2 j v hv
    exact (hf.cell (World.block_lt_of_cell? w _ h1) (fun q => q)).trans h1⟩
  refine halves1_in F l Bs b off cap ss hreach hb (fhOf ss hs h0) (fun k s hk => ?_) J Jx (fun s A B hsA hg => hJ s A B none hsA hg (fun r e => by cases e)) hY W hBn (by simpa using hc) hsec' hj
  have hlt : k < 2 * ss.length := by
    have := (List.getElem?_eq_some_iff.1 hk).1
    omega
  obtain ⟨e1, e2⟩ := fhOf_at hs h0 hlt
  exact ⟨e1, by rw [e2, hv, hk]; rfl⟩

section
variable {ops : Array Oper} {rest : List Oper} {op : Oper} {a : Act} {w : World} {Q : Exit → Act → World → Prop}
theorem wpList_load_mid' (hw : Region.wanted op (yielded ops a.tmps) = true) (ty : TypeId) (x : Operand) (ho : op.op = .load ty x)
    (b o : Nat) (hx : a.eval x = .pointer (some ⟨b, o, none⟩)) (cs : List Value) (d : TypeDesc) (hc : w.rangeAt b o cs)
    (hu : Try.prog.underlying ty = some d) (hd : d.isRow = true) (hi : (Try.prog.info? ty).map (·.size) = some cs.length)
    (h : wpList Try.prog ops Q rest (a.put op.dst (.agg cs.toArray)) w) : wpList Try.prog ops Q (op :: rest) a w := by
  refine wpList_step fun K hK => ?_
  simp only [hw, if_true]
  exact wp_load_mid ty x ho b o hx cs d hc hu hd hi (hK _ _ h)
end

/-- Two results laid, no more. -/
theorem two_cells (w : World) : ∃ W, W = (w.alloc (.cells #[.int .u64 0, .int .i64 0] 24)).alloc (.cells #[.slice none 0 0] 25) ∧ Blk W w.heap.size 24 #[.int .u64 0, .int .i64 0] ∧ Blk W (w.heap.size + 1) 25 #[.slice none 0 0] ∧ Fr (fun _ => False) w W ∧ W.heap.size = w.heap.size + 2 := by
  refine ⟨_, rfl, (Blk.new w _ _).keep (F := fun _ => False) ((Fr.refl _ _).alloc _) (fun q => q), ?_, ((Fr.refl _ w).alloc _).alloc _, by simp⟩
  have := Blk.new (w.alloc (.cells #[.int .u64 0, .int .i64 0] 24)) 25 #[.slice none 0 0]
  simpa using this
/-- What stands in the results, stored again. -/
theorem none_cells {w0 w : World} {g2 g3 : Nat} (b2 : Blk w g2 24 #[.int .u64 0, .int .i64 0]) (b3 : Blk w g3 25 #[.slice none 0 0]) (hne : g2 ≠ g3) (hf : Fr (fun _ => False) w0 w) (h2 : w0.heap.size ≤ g2) (h3 : w0.heap.size ≤ g3) :
    Blk (((w.setCell ⟨g2, 0, none⟩ (.int .u64 0)).setCell ⟨g2, 1, none⟩ (.int .i64 0)).setCell ⟨g3, 0, none⟩ (.slice none 0 0)) g2 24 #[.int .u64 0, .int .i64 0] ∧
    Blk (((w.setCell ⟨g2, 0, none⟩ (.int .u64 0)).setCell ⟨g2, 1, none⟩ (.int .i64 0)).setCell ⟨g3, 0, none⟩ (.slice none 0 0)) g3 25 #[.slice none 0 0] ∧
    Fr (fun _ => False) w0 (((w.setCell ⟨g2, 0, none⟩ (.int .u64 0)).setCell ⟨g2, 1, none⟩ (.int .i64 0)).setCell ⟨g3, 0, none⟩ (.slice none 0 0)) := by
  have f2 : Fr (fun j => j = g2) w ((w.setCell ⟨g2, 0, none⟩ (.int .u64 0)).setCell ⟨g2, 1, none⟩ (.int .i64 0)) := ((Fr.refl (fun j => j = g2) w).setCell (p := ⟨g2, 0, none⟩) (.inl rfl) _).setCell (p := ⟨g2, 1, none⟩) (.inl rfl) _
  have f3 : Fr (fun j => j = g3) ((w.setCell ⟨g2, 0, none⟩ (.int .u64 0)).setCell ⟨g2, 1, none⟩ (.int .i64 0)) (((w.setCell ⟨g2, 0, none⟩ (.int .u64 0)).setCell ⟨g2, 1, none⟩ (.int .i64 0)).setCell ⟨g3, 0, none⟩ (.slice none 0 0)) := (Fr.refl (fun j => j = g3) _).setCell (p := ⟨g3, 0, none⟩) (.inl rfl) _
  refine ⟨((b2.set_ 0 (.int .u64 0)).set_ 1 (.int .i64 0)).keep f3 hne, (b3.keep f2 (fun e => hne e.symm)).set_ 0 _, (hf.trans f2 (fun j hj q => by omega)).trans f3 (fun j hj q => by omega)⟩

theorem tog_nil (w : World) (A : Option Addr) (cap : Nat) : Calls Try.prog 28 #[.slice A 0 cap] w fun e w' => e = .returned (.tuple #[.agg #[.int .u64 0, .int .i64 0], .slice none 0 0]) ∧ Fr (fun _ => False) w w' := by
  go_enter Try.func28, Try.ntmps28
  go_wp2_with fail
  obtain ⟨W, hW, b2, b3, hf, hsz⟩ := two_cells w
  rw [← hW]
  exact bodyPost_ret (results_tog rfl rfl b2 b3) rfl ⟨rfl, hf⟩

theorem tog_bad {w : World} {b off cap : Nat} {ss : List (List UInt8)} {s : List UInt8} (hsec : SecsAt w b off ss) (h0 : ss[0]? = some s) (hm : mayT (tagOf s).1 ((tagOf s).2 : Int) = false) :
    Calls Try.prog 28 #[.slice (some ⟨b, off, none⟩) ss.length cap] w fun e w' => e = .returned (.tuple #[.agg #[.int .u64 0, .int .i64 0], .slice none 0 0]) ∧ Fr (fun _ => False) w w' := by
  obtain ⟨hs, hrg⟩ := hsec 0 s h0
  rw [Nat.zero_mul, Nat.add_zero] at hrg
  have hlen : 0 < ss.length := (List.getElem?_eq_some_iff.1 h0).1
  obtain ⟨W, hW, b2, b3, hf, hsz⟩ := two_cells w
  have HR : Hid (W.rangeAt b off (cellsB s)) := Lib.hid fun j v hv => (hf.cell (World.block_lt_of_cell? w _ (hrg j v hv)) (fun q => q)).trans (hrg j v hv)
  have HW := Lib.hid (And.intro b2 (And.intro b3 (And.intro hf hsz)))
  have HWW := Lib.hid hW
  have HT := Lib.hid (tag_any W s hs)
  have hne : ((ss.length : Int) == 0) = false := by rw [beq_eq_false_iff_ne]; omega
  clear hrg hsec h0 b2 b3 hf hsz hW
  generalize tagOf s = t at *
  obtain ⟨t1, t2⟩ := t
  simp only at hm
  go_enter Try.func28, Try.ntmps28
  go_wp2_with (refine wpList_load_mid' (by rfl) 37 _ rfl b off rfl (cellsB s) _ (HWW.out ▸ HR.out) Try.underlying37 rfl (by rw [infoSector, cellsB_len, hs]) ?_)
  rw [← HWW.out]
  refine HT.out.mono ?_
  rintro e w2 ⟨rfl, hf2⟩
  have H2 := Lib.hid (And.intro (HW.out.1.keep hf2 (fun q => q)) (And.intro (HW.out.2.1.keep hf2 (fun q => q)) (HW.out.2.2.1.trans hf2 (fun _ _ q => q))))
  clear hf2
  go_wp2_with fail
  refine (may_any w2 t1 (t2 : Int)).mono ?_
  rintro e w3 ⟨rfl, hf3⟩
  rw [hm]
  have b2 := H2.out.1.keep hf3 (fun q => q)
  have b3 := H2.out.2.1.keep hf3 (fun q => q)
  have c0 := b2.cell 0
  have c1 := b2.cell 1
  have f0 := b2.frozen 0
  have f1 := b2.frozen 1
  have d0 := b3.cell 0
  have e0 := b3.frozen 0
  simp at c0 c1 d0
  have H3 := Lib.hid (And.intro b2 (And.intro b3 (H2.out.2.2.trans hf3 (fun _ _ q => q))))
  clear b2 b3 hf3
  go_wp2_with fail
  obtain ⟨c2, c3, hfr⟩ := none_cells H3.out.1 H3.out.2.1 (by omega) H3.out.2.2 (Nat.le_refl _) (by omega)
  exact bodyPost_ret (results_tog rfl rfl c2 c3) rfl ⟨rfl, hfr⟩
end Go.Proofs.Ytbnegiiombnnaaa
