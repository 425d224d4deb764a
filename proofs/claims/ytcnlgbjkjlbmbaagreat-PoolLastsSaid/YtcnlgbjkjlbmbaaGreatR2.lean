/- R2: laid together out of Qpl Qre Qld Qlj Qlk Qcp. -/
import Derived.Test.YtcnlgbjkjlbmbaaGreatR1
namespace Go.Proofs.YtcnlgbjkjlbmbaaGreat
open Go.RowKit

abbrev plC (g z fr lb M1 M2 : Nat) (v : Value) (dd : Bool) : Array Value := #[.pointer (some ⟨g, 0, none⟩), .int .i64 (z : Nat), .int .i64 (fr : Nat), .pointer (some ⟨lb, 0, none⟩), .map (some M1), .map (some M2), v, .bool dd]
abbrev PlB (w : World) (p g z fr lb M1 M2 : Nat) (v : Value) (dd : Bool) : Prop := Blk w p 65 (plC g z fr lb M1 M2 v dd)
section
variable {w : World} {p g z fr lb M1 M2 : Nat} {v : Value} {dd : Bool}
set_option maxRecDepth 100000 in
theorem pl_cells (h : PlB w p g z fr lb M1 M2 v dd) : w.cell? ⟨p, 0, none⟩ = some (.pointer (some ⟨g, 0, none⟩)) ∧ w.cell? ⟨p, 1, none⟩ = some (.int .i64 (z : Nat)) ∧ w.cell? ⟨p, 2, none⟩ = some (.int .i64 (fr : Nat)) ∧ w.cell? ⟨p, 3, none⟩ = some (.pointer (some ⟨lb, 0, none⟩)) ∧ w.cell? ⟨p, 4, none⟩ = some (.map (some M1)) ∧ w.cell? ⟨p, 5, none⟩ = some (.map (some M2)) ∧ w.cell? ⟨p, 6, none⟩ = some v ∧ w.cell? ⟨p, 7, none⟩ = some (.bool dd) := by
 have h0 := h.cell 0
 have h1 := h.cell 1
 have h2 := h.cell 2
 have h3 := h.cell 3
 have h4 := h.cell 4
 have h5 := h.cell 5
 have h6 := h.cell 6
 have h7 := h.cell 7
 simp only [List.getElem?_toArray, List.getElem?_cons_zero, List.getElem?_cons_succ] at h0 h1 h2 h3 h4 h5 h6 h7
 exact ⟨h0, h1, h2, h3, h4, h5, h6, h7⟩
set_option maxRecDepth 100000 in
theorem plnone_any (h : PlB w p g z fr lb M1 M2 v dd) : Calls Tryz.prog 47 #[.pointer (some ⟨p, 0, none⟩)] w fun e w' => e = .returned (.bool false) ∧ w = w' := by
 obtain ⟨c0, _⟩ := pl_cells h
 clear h
 go_enter Tryz.func47, Tryz.ntmps47
 go_wp2_with fail
 go_ret
 exact ⟨rfl, rfl⟩
set_option maxRecDepth 100000 in
theorem pldead_any {B : Nat} {P : Nat → Prop} {d : DS} (h : PlB w p g z fr lb M1 M2 v dd) (hd : DAt w B P g d) : Calls Tryz.prog 29 #[.pointer (some ⟨p, 0, none⟩)] w fun e w' => e = .returned (.bool (dd || d.dd)) ∧ PlB w' p g z fr lb M1 M2 v (dd || d.dd) ∧ Fr (fun b => b = p) w w' := by
 have HN := Lib.hid (plnone_any h)
 obtain ⟨c0, _, _, _, _, _, _, c7⟩ := pl_cells h
 have z7 := h.frozen 7
 have HD := Lib.hid fun w' (f : Fr (fun _ => False) w w') => adead_any (hd.new f)
 have hs := h.set_ 7 (.bool (dd || d.dd))
 have hs' : PlB (w.setCell ⟨p, 7, none⟩ (.bool (dd || d.dd))) p g z fr lb M1 M2 v (dd || d.dd) := hs
 have HS := Lib.hid (And.intro hs' ((Fr.refl (fun b => b = p) w).setCell (p := ⟨p, 7, none⟩) (.inl rfl) (.bool (dd || d.dd))))
 have k7 : (w.setCell ⟨p, 7, none⟩ (.bool (dd || d.dd))).cell? ⟨p, 7, none⟩ = some (.bool (dd || d.dd)) := (pl_cells hs').2.2.2.2.2.2.2
 have HDD := Lib.hid hd
 obtain ⟨b, hb⟩ : ∃ b, b = d.dd := ⟨_, rfl⟩
 rw [← hb] at HD HS k7 ⊢
 clear h hd hs hs' hb
 go_enter Tryz.func29, Tryz.ntmps29
 go_wp2_with fail
 refine HN.out.mono ?_
 rintro e w1 ⟨rfl, rfl⟩
 cases dd with
 | true =>
   simp only [Bool.true_or] at HS k7 ⊢
   go_wp2_with fail
   go_ret
   exact ⟨rfl, HS.out.1, HS.out.2⟩
 | false =>
   simp only [Bool.false_or] at HS k7 ⊢
   go_wp2_with fail
   refine (HD.out _ (Fr.refl _ _)).mono ?_
   rintro e w2 ⟨rfl, rfl⟩
   go_wp2_with fail
   go_ret
   exact ⟨rfl, HS.out.1, HS.out.2⟩
set_option maxRecDepth 100000 in
theorem plrefuses_any {B : Nat} {P : Nat → Prop} {d : DS} (h : PlB w p g z fr lb M1 M2 v dd) (hd : DAt w B P g d) : Calls Tryz.prog 51 #[.pointer (some ⟨p, 0, none⟩)] w fun e w' => e = .returned (.int .i64 (if (dd || d.dd) then 10 else 0)) ∧ PlB w' p g z fr lb M1 M2 v (dd || d.dd) ∧ Fr (fun b => b = p) w w' := by
 have HN := Lib.hid (plnone_any h)
 have HD := Lib.hid (pldead_any h hd)
 obtain ⟨b, hb⟩ : ∃ b, b = (dd || d.dd) := ⟨_, rfl⟩
 rw [← hb] at HD ⊢
 clear h hd hb
 go_enter Tryz.func51, Tryz.ntmps51
 go_wp2_with fail
 refine HN.out.mono ?_
 rintro e w1 ⟨rfl, rfl⟩
 go_wp2_with fail
 refine HD.out.mono ?_
 rintro e w2 ⟨rfl, h2, f2⟩
 have H2 := Lib.hid (And.intro h2 f2)
 clear h2 f2
 cases b
 · go_wp2_with fail
   go_ret
   exact ⟨rfl, H2.out.1, H2.out.2⟩
 · go_wp2_with fail
   go_ret
   exact ⟨rfl, H2.out.1, H2.out.2⟩
set_option maxRecDepth 100000 in
theorem plpages_any {B : Nat} {P : Nat → Prop} {d : DS} (h : PlB w p g z fr lb M1 M2 v dd) (hd : DAt w B P g d) : Calls Tryz.prog 28 #[.pointer (some ⟨p, 0, none⟩)] w fun e w' => e = .returned (.int .i64 (pcnt d.rd.length z : Nat)) ∧ w' = w.drew := by
 have HN := Lib.hid (plnone_any h)
 obtain ⟨c0, c1, _⟩ := pl_cells h
 have hdr : (Fr (fun _ => False) w w.drew) := (Fr.refl _ w).drew
 have HC := Lib.hid (pcount_any (hd.new hdr) (z : Int))
 have HB := Lib.hid h
 have HCC : Hid (∀ w'', w'' = w.drew → w''.cell? ⟨p, 0, none⟩ = some (.pointer (some ⟨g, 0, none⟩)) ∧ w''.cell? ⟨p, 1, none⟩ = some (.int .i64 (z : Nat))) := Lib.hid fun w'' e => by
  subst e
  exact ⟨c0, c1⟩
 obtain ⟨n, hn⟩ : ∃ n, n = pcnt d.rd.length (z : Int) := ⟨_, rfl⟩
 rw [← hn] at HC ⊢
 have HCP : Hid (∀ w'', w'' = w.drew → Calls Tryz.prog 32 #[.pointer (some ⟨g, 0, none⟩), .int .i64 (z : Nat)] w'' fun e w' => e = .returned (.int .i64 (n : Nat)) ∧ w' = w.drew) := Lib.hid fun w'' e => by
  subst e
  exact HC.out.mono fun e w3 q => ⟨q.1, q.2.symm⟩
 clear h hd hdr hn
 go_enter Tryz.func28, Tryz.ntmps28
 go_wp2_with fail
 refine HN.out.mono ?_
 rintro e w1 ⟨rfl, rfl⟩
 go_upto_region 3 with fail
 refine wp_region_held_drew (S := fun w' => w' = w.drew) (by kernel_rfl) (rfl) (fun hS0 => ?_)
 refine anyH_tk 0 5 (.pointer (some ⟨p, 0, none⟩)) rfl rfl (.inl ⟨by rfl, fun w'' hS => by go_simp⟩) hS0 ?_
 (simp only [sA, sB, sC])
 refine anyH_tk 1 6 (.pointer (some ⟨p, 0, none⟩)) rfl rfl (.inl ⟨by rfl, fun w'' hS => by go_simp⟩) hS0 ?_
 (simp only [sA, sB, sC])
 refine anyH_tk 2 7 (.pointer (some ⟨p, 0, none⟩)) rfl rfl (.inl ⟨by rfl, fun w'' hS => by go_simp⟩) hS0 ?_
 (simp only [sA, sB, sC])
 refine anyH_tk 3 8 (.pointer (some ⟨g, 0, none⟩)) rfl rfl (.inl ⟨by rfl, fun w'' hS => by have q0 := (HCC.out w'' hS).1; go_simp⟩) hS0 ?_
 (simp only [sA, sB, sC])
 refine anyH_tk 4 9 (.pointer (some ⟨p, 0, none⟩)) rfl rfl (.inl ⟨by rfl, fun w'' hS => by go_simp⟩) hS0 ?_
 (simp only [sA, sB, sC])
 refine anyH_tk 5 10 (.pointer (some ⟨p, 0, none⟩)) rfl rfl (.inl ⟨by rfl, fun w'' hS => by go_simp⟩) hS0 ?_
 (simp only [sA, sB, sC])
 refine anyH_tk 6 11 (.pointer (some ⟨p, 1, none⟩)) rfl rfl (.inl ⟨by rfl, fun w'' hS => by go_simp⟩) hS0 ?_
 (simp only [sA, sB, sC])
 refine anyH_tk 7 12 (.int .i64 (z : Nat)) rfl rfl (.inl ⟨by rfl, fun w'' hS => by have q0 := (HCC.out w'' hS).2; go_simp⟩) hS0 ?_
 (simp only [sA, sB, sC])
 refine anyH_one 8 13 (.int .i64 (n : Nat)) (by kernel_rfl) (tame_call 13 rfl rfl (by rfl) (fun w'' hS => by go_simp) (fun w'' hS => HCP.out w'' hS)) hS0 (fun wq hS0 => ?_)
 (simp only [sA, sB, sC])
 refine anyH_tk 9 2 (.int .i64 (n : Nat)) rfl rfl (.inl ⟨by rfl, fun w'' hS => by go_simp⟩) hS0 ?_
 (simp only [sA, sB, sC])
 refine wpAnyH_done (by kernel_rfl) ?_ _
 have HE := Lib.hid hS0
 clear hS0
 go_wp2_with fail
 go_ret
 exact ⟨rfl, HE.out⟩
set_option maxRecDepth 100000 in
theorem plroom_any {g' z' c s us mm : Nat} {ld : Bool} (h : PlB w p g z fr lb M1 M2 v dd) (hl : LgW w lb g' z' c s us mm ld) (hu : us ≤ z') (hz : z' ≤ 4000) : Calls Tryz.prog 25 #[.pointer (some ⟨p, 0, none⟩)] w fun e w' => e = .returned (.int .i64 ((z' - us : Nat) : Int)) ∧ w' = w.drew := by
 have HN := Lib.hid (plnone_any h)
 obtain ⟨_, _, _, c3, _⟩ := pl_cells h
 have HR := Lib.hid (lroom_any hl hu hz)
 clear h hl
 go_enter Tryz.func25, Tryz.ntmps25
 go_wp2_with fail
 refine HN.out.mono ?_
 rintro e w1 ⟨rfl, rfl⟩
 go_wp2_with fail
 refine HR.out.mono ?_
 rintro e w1 ⟨rfl, rfl⟩
 go_wp2_with fail
 go_ret
 exact ⟨rfl, rfl⟩
set_option maxRecDepth 100000 in
theorem plchanged_any {N : Nat} {f : Nat → List UInt8} (h : PlB w p g z fr lb M1 M2 v dd) (hm : PMap w M1 N f) (hN : N ≤ 8192) : Calls Tryz.prog 16 #[.pointer (some ⟨p, 0, none⟩)] w fun e w' => ∃ v, e = .returned v ∧ w'.ownsRow w.heap.size 3 1 v (openF f N).length ((asZ (openF f N)).map encZ) ∧ Fr (fun _ => False) w w' := by
 have HN := Lib.hid (plnone_any h)
 have hc := pl_cells h
 have c4 := hc.2.2.2.2.1
 have c5 := hc.2.2.2.2.2.1
 have HU := Lib.hid (numbers_any hm hN)
 clear h hm hc
 go_enter Tryz.func16, Tryz.ntmps16
 go_wp2_with fail
 refine HN.out.mono ?_
 rintro e w1 ⟨rfl, rfl⟩
 go_wp2_with fail
 refine HU.out.mono ?_
 rintro e w1 ⟨u, rfl, ho, f1⟩
 have H1 := Lib.hid (And.intro ho f1)
 clear ho f1
 go_wp2_with fail
 go_ret
 exact ⟨_, rfl, H1.out.1, H1.out.2⟩
set_option maxRecDepth 100000 in
theorem pldirty_any {N : Nat} {f : Nat → List UInt8} (h : PlB w p g z fr lb M1 M2 v dd) (hm : PMap w M2 N f) (hN : N ≤ 8192) : Calls Tryz.prog 17 #[.pointer (some ⟨p, 0, none⟩)] w fun e w' => ∃ v, e = .returned v ∧ w'.ownsRow w.heap.size 3 1 v (openF f N).length ((asZ (openF f N)).map encZ) ∧ Fr (fun _ => False) w w' := by
 have HN := Lib.hid (plnone_any h)
 have hc := pl_cells h
 have c4 := hc.2.2.2.2.1
 have c5 := hc.2.2.2.2.2.1
 have HU := Lib.hid (numbers_any hm hN)
 clear h hm hc
 go_enter Tryz.func17, Tryz.ntmps17
 go_wp2_with fail
 refine HN.out.mono ?_
 rintro e w1 ⟨rfl, rfl⟩
 go_wp2_with fail
 refine HU.out.mono ?_
 rintro e w1 ⟨u, rfl, ho, f1⟩
 have H1 := Lib.hid (And.intro ho f1)
 clear ho f1
 go_wp2_with fail
 go_ret
 exact ⟨_, rfl, H1.out.1, H1.out.2⟩
end
end Go.Proofs.YtcnlgbjkjlbmbaaGreat

namespace Go.Proofs.YtcnlgbjkjlbmbaaGreat
open Go.RowKit

abbrev frC (c : Nat × List UInt8) : Array Value := (.int .i64 (c.1 : Nat) :: cellsB c.2).toArray
def FrV (w : World) (v : Value) (cl : List (Nat × List UInt8)) : Prop :=
 ∃ bs : List Nat, w.ownsRow 0 93 1 v cl.length (bs.map fun b => .pointer (some ⟨b, 0, none⟩)) ∧ bs.length = cl.length ∧ ∀ (i b : Nat) (c : Nat × List UInt8), bs[i]? = some b → cl[i]? = some c → Blk w b 95 (frC c) ∧ c.2.length = 512
def pgAt (d : DS) (z n : Nat) : List UInt8 := (List.range 4).flatMap fun i => d.rd.getD (1 + z + 4 * n + i) []
def pgUp (d : DS) (z n i : Nat) : List UInt8 := ((List.range i).flatMap fun j => d.rd.getD (1 + z + 4 * n + j) []) ++ nought (512 - i * 128)
set_option maxRecDepth 100000 in
theorem pgUp_zero (d : DS) (z n : Nat) : pgUp d z n 0 = nought 512 := by simp [pgUp]
set_option maxRecDepth 100000 in
theorem pgUp_four (d : DS) (z n : Nat) : pgUp d z n 4 = pgAt d z n := by
 unfold pgUp pgAt
 have : nought (512 - 4 * 128) = [] := by rfl
 rw [this, List.append_nil]
set_option maxRecDepth 100000 in
theorem pgPre_len {d : DS} {z n : Nat} (h : ∀ s ∈ d.rd, s.length = 128) (hl : 1 + z + 4 * n + 4 ≤ d.rd.length) : ∀ i, i ≤ 4 → ((List.range i).flatMap fun j => d.rd.getD (1 + z + 4 * n + j) []).length = i * 128
 | 0, _ => by simp
 | i + 1, hi => by
   rw [List.range_succ, List.flatMap_append, List.length_append, pgPre_len h hl i (by omega)]
   simp only [List.flatMap_cons, List.flatMap_nil, List.append_nil]
   have : (d.rd.getD (1 + z + 4 * n + i) []).length = 128 := h _ (List.mem_of_getElem? (i := 1 + z + 4 * n + i) (by simp [show 1 + z + 4 * n + i < d.rd.length by omega]))
   omega
set_option maxRecDepth 100000 in
theorem pgUp_len {d : DS} {z n i : Nat} (h : ∀ s ∈ d.rd, s.length = 128) (hl : 1 + z + 4 * n + 4 ≤ d.rd.length) (hi : i ≤ 4) : (pgUp d z n i).length = 512 := by
 unfold pgUp
 rw [List.length_append, pgPre_len h hl i hi, nought_len]
 omega
set_option maxRecDepth 100000 in
theorem pgUp_next {d : DS} {z n i : Nat} (h : ∀ s ∈ d.rd, s.length = 128) (hl : 1 + z + 4 * n + 4 ≤ d.rd.length) (hi : i < 4) : patch (pgUp d z n i) (i * 128) (d.rd.getD (1 + z + 4 * n + i) []) = pgUp d z n (i + 1) := by
 have h1 := pgPre_len h hl i (by omega)
 have h2 : (d.rd.getD (1 + z + 4 * n + i) []).length = 128 := h _ (List.mem_of_getElem? (i := 1 + z + 4 * n + i) (by simp [show 1 + z + 4 * n + i < d.rd.length by omega]))
 unfold patch pgUp
 rw [List.range_succ, List.flatMap_append]
 simp only [List.flatMap_cons, List.flatMap_nil, List.append_nil]
 rw [List.take_left' h1, h2, List.drop_append, h1]
 rw [List.drop_of_length_le (by rw [h1]; omega), List.nil_append]
 have h3 : (nought (512 - i * 128)).drop (i * 128 + 128 - i * 128) = nought (512 - (i + 1) * 128) := by
  unfold nought
  rw [List.drop_replicate]
  congr 1
  omega
 rw [h3, List.append_assoc]
set_option maxRecDepth 100000 in
theorem zeroPgV : Value.agg Tryz.zeroCells50 = av (nought 512) := by kernel_rfl
set_option maxRecDepth 100000 in
theorem zero_frame (n : Value) : Tryz.zeroCells95.setIfInBounds 0 n = (n :: cellsB (nought 512)).toArray := by
 have h : Value.agg Tryz.zeroCells95 = .agg (.int .i64 0 :: cellsB (nought 512)).toArray := by kernel_rfl
 injection h with h
 rw [h, List.setIfInBounds_toArray, List.set_cons_zero]
section
variable {P : Program} {ops : Array Oper} {Q : Exit → Act → World → Prop} {md : Region.Mode} {S : World → Prop}
set_option maxRecDepth 100000 in
theorem anyH_alt (i j : Nat) {fuel : Nat} {listed : Array Bool} {T : Array Value} {ds : List Deferred} {w : World} (hr : Region.ready md ops listed = [i, j])
 (hi : wpOp P ops Q i (fun a' w' => S w' ∧ wpAnyH P md ops Q S fuel (listed.setIfInBounds i true) a' w') { tmps := T, defers := ds } w)
 (hj : wpOp P ops Q j (fun a' w' => S w' ∧ wpAnyH P md ops Q S fuel (listed.setIfInBounds j true) a' w') { tmps := T, defers := ds } w) : wpAnyH P md ops Q S (fuel + 1) listed { tmps := T, defers := ds } w := by
 refine wpAnyH_all hr (by simp) fun q hq => ?_
 simp only [List.mem_cons, List.not_mem_nil, or_false] at hq
 rcases hq with rfl | rfl
 · exact hi
 · exact hj
end
section
variable {o : Oper} {a : Act}
set_option maxRecDepth 100000 in
theorem run_copy_u8 {w : World} (s x : Operand) (hop : o.op = Op.call { callee := Callee.builtin Builtin.copy, args := #[s, x], argTypes := #[46, 46] }) {v y v' : Value} {w' : World} (hs : a.eval s = v) (hx : a.eval x = y)
 (hrun : (Builtin.copy_ #[46, 46] o.type #[v, y]).run Tryz.prog w = .ok v' w') : (execOp a.eval o).run Tryz.prog w = .ok (.value v') w' := by
 simp [execOp, hop, resolve, invoke, builtin, hs, hx, hrun, Result.andThen]
end
set_option maxRecDepth 100000 in
theorem frame_from (P : Nat) {z : Int} {o : Nat} (hz : z = (o : Int)) (ho : o < 512) (W : World) :
 (Instr.sliceAt 50 (.pointer (some ⟨P, 1, none⟩)) (some (.int .i64 z)) none none).run Tryz.prog W = .ok (.slice (some ⟨P, 1 + o, none⟩) (512 - o) (512 - o)) W := by
 rw [run_sliceAt_array_l W 50 _ (by kernel_rfl) .i64 z (by omega) (by rw [pageLen]; omega), pageSz]
 have e : z.toNat = o := by omega
 simp [Result.andThen, slicedAt, pageLen, e, addr_add]
 intro hh; omega
set_option maxRecDepth 100000 in
theorem fr_copy {w : World} {bf S n i : Nat} {pg s : List UInt8} (hb : Blk w bf 95 (frC (n, pg))) (hs : Blk w S 83 (cellsB s).toArray) (hpl : pg.length = 512) (hsl : s.length = 128) (hi : i < 4) :
 ∃ w6, (∀ ty, (Builtin.copy_ #[46, 46] ty #[.slice (some ⟨bf, 1 + i * 128, none⟩) (512 - i * 128) (512 - i * 128), .slice (some ⟨S, 0, none⟩) 128 128]).run Tryz.prog w = .ok (goInt 128) w6) ∧ Blk w6 bf 95 (frC (n, patch pg (i * 128) s)) ∧ Fr (fun x => x = bf) w w6 := by
 have hsz : (frC (n, pg)).size = 513 := by simp [cellsB_len, hpl]
 have hth := hb.there (o := 1 + i * 128) (n := 128) (by rw [hsz]; omega)
 refine ⟨w.setCells bf (1 + i * 128) (cellsB s), fun ty => ?_, ?_, Fr.setCells (F := fun x => x = bf) (.inl rfl) (Fr.refl _ _)⟩
 · have h := run_copy_cells (P := Tryz.prog) w 46 46 ty 5 bf (1 + i * 128) (512 - i * 128) (512 - i * 128) ⟨S, 0, none⟩ 128 128 (cellsB s) Tryz.underlying46 (by kernel_rfl) (by rw [cellsB_len, hsl]; exact (Nat.min_eq_left (show 128 ≤ 512 - i * 128 by omega)).symm)
    (fun j v hv => by rw [addr_add, hs.cell]; simpa using hv) (fun j hj => (hth j (by rw [cellsB_len, hsl] at hj; exact hj)).1) (fun j hj => (hth j (by rw [cellsB_len, hsl] at hj; exact hj)).2) (cellsB_one _)
   rw [cellsB_len, hsl] at h
   exact h
 · obtain ⟨cs', q1, q2, q3, q4⟩ := hb.range_set (vs := cellsB s) (o := 1 + i * 128) (by rw [hsz, cellsB_len]; omega)
   have hpp : (patch pg (i * 128) s).length = 512 := by rw [patch_len (by rw [hpl, hsl]; omega), hpl]
   have : cs' = frC (n, patch pg (i * 128) s) := by
    apply Array.ext_getElem?
    intro j
    by_cases h1 : j < 1 + i * 128
    · rw [q4 j (.inl h1)]
      cases j with
      | zero => simp
      | succ j =>
        simp only [List.getElem?_toArray, List.getElem?_cons_succ, cellsB, List.getElem?_map]
        congr 1
        unfold patch
        rw [List.getElem?_append_left (by rw [List.length_take]; omega), List.getElem?_take_of_lt (by omega)]
    · by_cases h2 : j < 1 + i * 128 + 128
      · have := q3 (j - (1 + i * 128)) ((cellsB s)[j - (1 + i * 128)]'(by rw [cellsB_len]; omega)) (List.getElem?_eq_getElem _)
        rw [show 1 + i * 128 + (j - (1 + i * 128)) = j by omega] at this
        rw [this]
        cases j with
        | zero => omega
        | succ j =>
          rw [← List.getElem?_eq_getElem]
          simp only [List.getElem?_toArray, List.getElem?_cons_succ, cellsB, List.getElem?_map]
          congr 1
          unfold patch
          rw [List.getElem?_append_right (by rw [List.length_take]; omega), List.length_take, Nat.min_eq_left (by omega), List.getElem?_append_left (by omega)]
          congr 1
          omega
      · rw [q4 j (.inr (by rw [cellsB_len]; omega))]
        cases j with
        | zero => omega
        | succ j =>
          simp only [List.getElem?_toArray, List.getElem?_cons_succ, cellsB, List.getElem?_map]
          congr 1
          unfold patch
          rw [List.getElem?_append_right (by rw [List.length_take]; omega), List.length_take, Nat.min_eq_left (by omega), List.getElem?_append_right (by omega), List.getElem?_drop]
          congr 1
          omega
   rw [this] at q1
   exact q1
set_option maxRecDepth 100000 in
set_option maxHeartbeats 4000000 in
theorem plread_any {w : World} {p g z fr lb M1 M2 : Nat} {v : Value} {dd : Bool} {B : Nat} {P : Nat → Prop} {d : DS} (h : PlB w p g z fr lb M1 M2 v dd) (hd : DAt w B P g d) {n : Nat} (hz : z ≤ 4000) (hn : n ≤ 2000) (hl : 1 + z + 4 * n + 4 ≤ d.rd.length) :
 Calls Tryz.prog 110 #[.pointer (some ⟨p, 0, none⟩), .int .i64 (n : Nat)] w fun e w' => ∃ b, e = .returned (.tuple #[.pointer (some ⟨b, 0, none⟩), .int .i64 0]) ∧ w.heap.size ≤ b ∧ Blk w' b 95 (frC (n, pgAt d z n)) ∧ (pgAt d z n).length = 512 ∧ Fr (fun _ => False) w w' := by
 have H0 := Lib.hid (And.intro h (And.intro hd hl))
 clear h hd hl
 go_enter Tryz.func110, Tryz.ntmps110
 have hfa : Fr (fun _ => False) w (w.alloc (.cells (.int .i64 (n : Nat) :: cellsB (nought 512)).toArray 95)) := (Fr.refl _ w).alloc _
 have hb0 := Blk.new w 95 (.int .i64 (n : Nat) :: cellsB (nought 512)).toArray
 have HA := Lib.hid (And.intro hb0 hfa)
 clear hb0 hfa
 go_wp2_with fail
 obtain ⟨w1, hw1⟩ : ∃ w1, w1 = w.alloc (.cells (.int .i64 (n : Nat) :: cellsB (nought 512)).toArray 95) := ⟨_, rfl⟩
 obtain ⟨bf, hbf2⟩ : ∃ bf, bf = w.heap.size := ⟨_, rfl⟩
 rw [← hw1, ← hbf2] at HA
 rw [zero_frame, ← hw1, ← hbf2]
 have HBF := Lib.hid hbf2
 clear hw1 hbf2
 go_loopw [13] (fun x wr => ∃ i : Nat, x = .int .i64 i ∧ i ≤ 4 ∧ Hid (Blk wr bf 95 (frC (n, pgUp d z n i))) ∧ Hid (Fr (fun b => b = bf) w1 wr)) (fun x _ => 4 - (intOf x).toNat)
 case atStart => exact ⟨0, rfl, Nat.zero_le _, Lib.hid (by rw [pgUp_zero]; exact HA.out.1), Lib.hid (Fr.refl _ _)⟩
 case round =>
  obtain ⟨i, rfl, hi4, HB, HF⟩ := hrel
  by_cases hil : i < 4
  · have hFw : Fr (fun b => w.heap.size ≤ b) w wr := (HA.out.2.mono (fun _ _ q => q.elim)).trans HF.out (fun b _ q => by rw [q, HBF.out]; exact Nat.le_refl _)
    have hpl := H0.out.1.keep (HA.out.2.trans HF.out (fun b hb q => by rw [q, HBF.out] at hb; omega)) (fun q => q)
    have hdw := H0.out.2.1.new (HA.out.2.trans HF.out (fun b hb q => by rw [q, HBF.out] at hb; omega))
    obtain ⟨ix, hix⟩ : ∃ ix, ix = 1 + z + 4 * n + i := ⟨_, rfl⟩
    have hixl : ix < d.rd.length := by have := H0.out.2.2; omega
    obtain ⟨s, hs⟩ : ∃ s, s = d.rd.getD ix [] := ⟨_, rfl⟩
    have hsl : s.length = 128 := by rw [hs]; exact hdw.get128 hixl
    have hwi : IntKind.i64.wrap (1 + (z : Int) + 4 * (n : Int) + (i : Int)) = (ix : Int) := by
     rw [hix]
     simp [IntKind.wrap, IntKind.signed, IntKind.bits]
     omega
    have HC : Hid (∀ w'', Fr (fun _ => False) wr w'' → w''.cell? ⟨p, 0, none⟩ = some (.pointer (some ⟨g, 0, none⟩)) ∧ w''.cell? ⟨p, 1, none⟩ = some (.int .i64 (z : Nat))) := Lib.hid fun w'' f => by
     have := pl_cells (hpl.keep f (fun q => q))
     exact ⟨this.1, this.2.1⟩
    have HRD : Hid (∀ w'', Fr (fun _ => False) wr w'' → Calls Tryz.prog 116 #[.pointer (some ⟨g, 0, none⟩), .int .i64 (ix : Nat)] w'' fun e w' => e = .returned (.tuple #[av s, .int .i64 0]) ∧ Fr (fun _ => False) w'' w') := Lib.hid fun w'' f => by
     rw [hs]
     exact aread_any (hdw.new f) hixl
    have HPO : Hid (∀ w'', Fr (fun _ => False) wr w'' → Calls Tryz.prog 61 #[.int .i64 (z : Nat), .int .i64 (n : Nat)] w'' fun e w' => e = .returned (.int .i64 ((1 + z + 4 * n : Nat) : Int)) ∧ w'' = w') := Lib.hid fun w'' f =>
     placeof_any w'' z n (by omega) (by omega)
    have HS := Lib.hid (And.intro hix (And.intro hs hsl))
    have hi0 : (0 : Int) ≤ (i : Int) := by omega
    have hi44 : (i : Int) < 4 := by omega
    clear hFw hpl hdw hix hixl hs hsl
    go_upto_region 5 with fail
    refine wp_region_held_drew (S := fun w' => Fr (fun _ => False) wr w') (by kernel_rfl) ((Fr.refl _ _).drew) (fun hS0 => ?_)
    refine anyH_tk 0 17 (.pointer (some ⟨p, 0, none⟩)) rfl rfl (.inl ⟨by rfl, fun w'' hS => by go_simp⟩) hS0 ?_
    (simp only [sA, sB, sC])
    refine anyH_tk 1 18 (.pointer (some ⟨p, 0, none⟩)) rfl rfl (.inl ⟨by rfl, fun w'' hS => by go_simp⟩) hS0 ?_
    (simp only [sA, sB, sC])
    refine anyH_tk 2 19 (.pointer (some ⟨p, 0, none⟩)) rfl rfl (.inl ⟨by rfl, fun w'' hS => by go_simp⟩) hS0 ?_
    (simp only [sA, sB, sC])
    refine anyH_tk 3 20 (.pointer (some ⟨g, 0, none⟩)) rfl rfl (.inl ⟨by rfl, fun w'' hS => by have q0 := (HC.out w'' hS).1; go_simp⟩) hS0 ?_
    (simp only [sA, sB, sC])
    refine anyH_tk 4 21 (.pointer (some ⟨p, 0, none⟩)) rfl rfl (.inl ⟨by rfl, fun w'' hS => by go_simp⟩) hS0 ?_
    (simp only [sA, sB, sC])
    refine anyH_tk 5 22 (.pointer (some ⟨p, 0, none⟩)) rfl rfl (.inl ⟨by rfl, fun w'' hS => by go_simp⟩) hS0 ?_
    (simp only [sA, sB, sC])
    refine anyH_tk 6 23 (.pointer (some ⟨p, 1, none⟩)) rfl rfl (.inl ⟨by rfl, fun w'' hS => by go_simp⟩) hS0 ?_
    (simp only [sA, sB, sC])
    refine anyH_tk 7 24 (.int .i64 (z : Nat)) rfl rfl (.inl ⟨by rfl, fun w'' hS => by have q0 := (HC.out w'' hS).2; go_simp⟩) hS0 ?_
    (simp only [sA, sB, sC])
    refine anyH_tk 8 25 (.int .i64 (n : Nat)) rfl rfl (.inl ⟨by rfl, fun w'' hS => by go_simp⟩) hS0 ?_
    (simp only [sA, sB, sC])
    refine anyH_tk 10 27 (.int .i64 (i : Nat)) rfl rfl (.inl ⟨by rfl, fun w'' hS => by go_simp⟩) hS0 ?_
    (simp only [sA, sB, sC])
    refine anyH_alt 9 16 (by kernel_rfl) ?_ ?_
    · refine wpOp_call (f := 61) (args := #[(.int .i64 (z : Nat)), (.int .i64 (n : Nat))]) 26 rfl rfl (by rfl) (by go_simp) ?_
      refine (HPO.out _ hS0).mono ?_
      rintro e w2 ⟨rfl, rfl⟩
      refine ⟨_, rfl, hS0, ?_⟩
      (simp only [sA, sB, sC])
      refine anyH_tk 11 28 (.int .i64 (ix : Nat)) rfl rfl (.inl ⟨by rfl, fun w'' hS => by go_simp⟩) hS0 ?_
      (simp only [sA, sB, sC])
      refine anyH_alt 12 16 (by kernel_rfl) ?_ ?_
      · refine wpOp_call (f := 116) (args := #[(.pointer (some ⟨g, 0, none⟩)), (.int .i64 (ix : Nat))]) 29 rfl rfl (by rfl) (by go_simp) ?_
        refine (HRD.out _ hS0).mono ?_
        rintro e w2 ⟨rfl, f2⟩
        refine ⟨_, rfl, hS0.trans f2 (fun _ _ q => q), ?_⟩
        (simp only [sA, sB, sC])
        have hS1 := hS0.trans f2 (fun _ _ q => q)
        clear hS0 f2
        have hS0 := hS1
        clear hS1
        refine anyH_tk 13 16 (.tuple #[av s, .int .i64 0]) rfl rfl (.inl ⟨by rfl, fun w'' hS => by go_simp⟩) hS0 ?_
        (simp only [sA, sB, sC])
        refine anyH_tk 14 30 (av s) rfl rfl (.inl ⟨by rfl, fun w'' hS => by go_simp⟩) hS0 ?_
        (simp only [sA, sB, sC])
        refine anyH_tk 15 31 (.int .i64 0) rfl rfl (.inl ⟨by rfl, fun w'' hS => by go_simp⟩) hS0 ?_
        (simp only [sA, sB, sC])
        obtain ⟨Ws, hWs, hbs, hrs, fs, ths⟩ := put_arr w2 83 Tryz.zeroCells83 128 zeroSecCells s HS.out.2.2
        refine anyH_value 16 8 (.pointer (some ⟨w2.heap.size, 0, none⟩)) (w2.alloc (.cells Tryz.zeroCells83 83)) (by kernel_rfl) rfl rfl (by rfl) (by go_simp) (hS0.alloc _) ?_
        (simp only [sA, sB, sC])
        refine anyH_skip 17 Ws (by kernel_rfl) rfl rfl (by rfl) (by rw [hWs]; exact run_store_mid 83 _ _ rfl w2.heap.size 0 (cellsB s).toArray rfl rfl ths (by rw [infoSector]; simp [cellsB_len, HS.out.2.2]) (all_oneCell_toArray (cellsB_one _))) (hS0.trans fs (fun _ _ q => q)) ?_
        have hSw := hS0.trans fs (fun _ _ q => q)
        clear hS0
        have hS0 := hSw
        clear hWs hrs fs ths
        refine anyH_tk 18 9 (.int .i64 0) rfl rfl (.inl ⟨by rfl, fun w'' hS => by go_simp⟩) hS0 ?_
        (simp only [sA, sB, sC])
        refine wpAnyH_done (by kernel_rfl) ?_ _
        obtain ⟨B8, hB8⟩ : ∃ x, x = w2.heap.size := ⟨_, rfl⟩
        try rw [← hB8] at hbs
        try rw [← hB8]
        have HW := Lib.hid (And.intro hbs hSw)
        clear hbs hSw hS0 hwi hB8
        go_wp2_with fail
        have hsz8 : (pgUp d z n i).length = 512 := pgUp_len H0.out.2.1.all128 H0.out.2.2 hi4
        obtain ⟨w6, hcp, hb6, hf6⟩ := fr_copy (w := Ws.drew) ((HB.out.keep HW.out.2 (fun q => q)).keep (F := fun _ => False) ((Fr.refl _ Ws).drew) (fun q => q)) (HW.out.1.keep (F := fun _ => False) ((Fr.refl _ Ws).drew) (fun q => q)) hsz8 HS.out.2.2 hil
        have hfm := frame_from bf (z := (i : Int) * 128) (o := i * 128) (by omega) (by omega)
        have hw1 : IntKind.i64.wrap ((i : Int) * 128) = (i : Int) * 128 := by simp [IntKind.wrap, IntKind.signed, IntKind.bits]; omega
        clear hsz8
        refine wp_region_held_drew (S := fun w' => Fr (fun b => b = bf) Ws.drew w') (by kernel_rfl) (Fr.refl _ _) (fun hS0 => ?_)
        refine anyH_tk 0 35 (.pointer (some ⟨bf, 0, none⟩)) rfl rfl (.inl ⟨by rfl, fun w'' hS => by go_simp⟩) hS0 ?_
        (simp only [sA, sB, sC])
        refine anyH_tk 1 36 (.pointer (some ⟨bf, 0, none⟩)) rfl rfl (.inl ⟨by rfl, fun w'' hS => by go_simp⟩) hS0 ?_
        (simp only [sA, sB, sC])
        refine anyH_tk 2 37 (.pointer (some ⟨bf, 1, none⟩)) rfl rfl (.inl ⟨by rfl, fun w'' hS => by go_simp⟩) hS0 ?_
        (simp only [sA, sB, sC])
        refine anyH_tk 3 38 (.int .i64 (i : Nat)) rfl rfl (.inl ⟨by rfl, fun w'' hS => by go_simp⟩) hS0 ?_
        (simp only [sA, sB, sC])
        refine anyH_tk 4 39 (.int .i64 ((i : Int) * 128)) rfl rfl (.inl ⟨by rfl, fun w'' hS => by go_simp⟩) hS0 ?_
        (simp only [sA, sB, sC])
        refine anyH_tk 5 40 (.slice (some ⟨bf, 1 + i * 128, none⟩) (512 - i * 128) (512 - i * 128)) rfl rfl (.inl ⟨by rfl, fun w'' hS => by go_simp⟩) hS0 ?_
        (simp only [sA, sB, sC])
        refine anyH_tk 6 41 (.slice (some ⟨B8, 0, none⟩) 128 128) rfl rfl (.inl ⟨by rfl, fun w'' hS => by go_simp⟩) hS0 ?_
        (simp only [sA, sB, sC])
        refine anyH_value 7 42 (goInt 128) w6 (by kernel_rfl) rfl rfl (by rfl) (run_copy_u8 (.tmp 40) (.tmp 41) rfl rfl rfl (hcp _)) hf6 ?_
        (simp only [sA, sB, sC])
        refine wpAnyH_done (by kernel_rfl) ?_ _
        clear hw1
        have hpg : patch (pgUp d z n i) (i * 128) s = pgUp d z n (i + 1) := by
         rw [HS.out.2.1, HS.out.1]
         have h1 := H0.out.2.1.all128
         exact pgUp_next h1 H0.out.2.2 hil
        rw [hpg] at hb6
        have hf9 : Fr (fun b => b = bf) w1 w6 := HF.out.trans (((HW.out.2.drew).mono (fun _ _ q => q.elim)).trans hf6 (fun _ _ q => q)) (fun _ _ q => q)
        have H9 := Lib.hid (And.intro hb6 hf9)
        clear hpg hf9 hb6 hf6 hcp hS0 hfm
        go_wp2_with fail
        refine ⟨⟨i + 1, by norm_cast, by omega, Lib.hid H9.out.1, Lib.hid H9.out.2⟩, ?_⟩
        simp only [intOf]
        omega
      · refine wpOp_value (w' := (wr.drew.alloc (.cells Tryz.zeroCells83 83))) 8 (.pointer (some ⟨wr.heap.size, 0, none⟩)) rfl rfl (by rfl) (by go_simp) ⟨hS0.alloc _, ?_⟩
        (simp only [sA, sB, sC])
        have hb16 : Blk (wr.drew.alloc (.cells Tryz.zeroCells83 83)) wr.heap.size 83 (cellsB (nought 128)).toArray := by
         rw [zeroSecCells]
         exact Blk.new wr.drew 83 (cellsB (nought 128)).toArray
        have hS2 := hS0.alloc (.cells Tryz.zeroCells83 83)
        clear hS0
        have hS0 := hS2
        clear hS2
        refine anyH_enter 12 29 (f := 116) (args := #[(.pointer (some ⟨g, 0, none⟩)), (.int .i64 (ix : Nat))]) (by kernel_rfl) rfl rfl (by rfl) (by go_simp) ?_
        refine (HRD.out _ hS0).mono ?_
        rintro e w2 ⟨rfl, f2⟩
        refine ⟨_, rfl, hS0.trans f2 (fun _ _ q => q), ?_⟩
        (simp only [sA, sB, sC])
        have hS1 := hS0.trans f2 (fun _ _ q => q)
        clear hS0
        have hS0 := hS1
        clear hS1
        have hkb := hb16.keep f2 (fun q => q)
        clear hb16 f2
        refine anyH_tk 13 16 (.tuple #[av s, .int .i64 0]) rfl rfl (.inl ⟨by rfl, fun w'' hS => by go_simp⟩) hS0 ?_
        (simp only [sA, sB, sC])
        refine anyH_tk 14 30 (av s) rfl rfl (.inl ⟨by rfl, fun w'' hS => by go_simp⟩) hS0 ?_
        (simp only [sA, sB, sC])
        refine anyH_tk 15 31 (.int .i64 0) rfl rfl (.inl ⟨by rfl, fun w'' hS => by go_simp⟩) hS0 ?_
        (simp only [sA, sB, sC])
        refine anyH_skip 17 (w2.setCells wr.heap.size 0 (cellsB s)) (by kernel_rfl) rfl rfl (by rfl) (run_store_mid 83 _ _ rfl wr.heap.size 0 (cellsB s).toArray rfl rfl (hkb.there (by simp [cellsB_len, nought_len, HS.out.2.2])) (by rw [infoSector]; simp [cellsB_len, HS.out.2.2]) (all_oneCell_toArray (cellsB_one _))) (Fr.setCells (.inr (Nat.le_refl _)) hS0) ?_
        have hSw : Fr (fun _ => False) wr (w2.setCells wr.heap.size 0 (cellsB s)) := Fr.setCells (.inr (Nat.le_refl _)) hS0
        clear hS0
        have hS0 := hSw
        refine anyH_tk 18 9 (.int .i64 0) rfl rfl (.inl ⟨by rfl, fun w'' hS => by go_simp⟩) hS0 ?_
        (simp only [sA, sB, sC])
        have hbs := hkb.over (o := 0) (m := s) (by rw [nought_len, HS.out.2.2]; omega)
        rw [patch_all (by rw [nought_len, HS.out.2.2])] at hbs
        clear hkb
        obtain ⟨Ws, hWs⟩ : ∃ x, x = w2.setCells wr.heap.size 0 (cellsB s) := ⟨_, rfl⟩
        rw [← hWs] at hSw hbs
        rw [← hWs]
        clear hWs
        refine wpAnyH_done (by kernel_rfl) ?_ _
        obtain ⟨B8, hB8⟩ : ∃ x, x = wr.heap.size := ⟨_, rfl⟩
        try rw [← hB8] at hbs
        try rw [← hB8]
        have HW := Lib.hid (And.intro hbs hSw)
        clear hbs hSw hS0 hwi hB8
        go_wp2_with fail
        have hsz8 : (pgUp d z n i).length = 512 := pgUp_len H0.out.2.1.all128 H0.out.2.2 hi4
        obtain ⟨w6, hcp, hb6, hf6⟩ := fr_copy (w := Ws.drew) ((HB.out.keep HW.out.2 (fun q => q)).keep (F := fun _ => False) ((Fr.refl _ Ws).drew) (fun q => q)) (HW.out.1.keep (F := fun _ => False) ((Fr.refl _ Ws).drew) (fun q => q)) hsz8 HS.out.2.2 hil
        have hfm := frame_from bf (z := (i : Int) * 128) (o := i * 128) (by omega) (by omega)
        have hw1 : IntKind.i64.wrap ((i : Int) * 128) = (i : Int) * 128 := by simp [IntKind.wrap, IntKind.signed, IntKind.bits]; omega
        clear hsz8
        refine wp_region_held_drew (S := fun w' => Fr (fun b => b = bf) Ws.drew w') (by kernel_rfl) (Fr.refl _ _) (fun hS0 => ?_)
        refine anyH_tk 0 35 (.pointer (some ⟨bf, 0, none⟩)) rfl rfl (.inl ⟨by rfl, fun w'' hS => by go_simp⟩) hS0 ?_
        (simp only [sA, sB, sC])
        refine anyH_tk 1 36 (.pointer (some ⟨bf, 0, none⟩)) rfl rfl (.inl ⟨by rfl, fun w'' hS => by go_simp⟩) hS0 ?_
        (simp only [sA, sB, sC])
        refine anyH_tk 2 37 (.pointer (some ⟨bf, 1, none⟩)) rfl rfl (.inl ⟨by rfl, fun w'' hS => by go_simp⟩) hS0 ?_
        (simp only [sA, sB, sC])
        refine anyH_tk 3 38 (.int .i64 (i : Nat)) rfl rfl (.inl ⟨by rfl, fun w'' hS => by go_simp⟩) hS0 ?_
        (simp only [sA, sB, sC])
        refine anyH_tk 4 39 (.int .i64 ((i : Int) * 128)) rfl rfl (.inl ⟨by rfl, fun w'' hS => by go_simp⟩) hS0 ?_
        (simp only [sA, sB, sC])
        refine anyH_tk 5 40 (.slice (some ⟨bf, 1 + i * 128, none⟩) (512 - i * 128) (512 - i * 128)) rfl rfl (.inl ⟨by rfl, fun w'' hS => by go_simp⟩) hS0 ?_
        (simp only [sA, sB, sC])
        refine anyH_tk 6 41 (.slice (some ⟨B8, 0, none⟩) 128 128) rfl rfl (.inl ⟨by rfl, fun w'' hS => by go_simp⟩) hS0 ?_
        (simp only [sA, sB, sC])
        refine anyH_value 7 42 (goInt 128) w6 (by kernel_rfl) rfl rfl (by rfl) (run_copy_u8 (.tmp 40) (.tmp 41) rfl rfl rfl (hcp _)) hf6 ?_
        (simp only [sA, sB, sC])
        refine wpAnyH_done (by kernel_rfl) ?_ _
        clear hw1
        have hpg : patch (pgUp d z n i) (i * 128) s = pgUp d z n (i + 1) := by
         rw [HS.out.2.1, HS.out.1]
         have h1 := H0.out.2.1.all128
         exact pgUp_next h1 H0.out.2.2 hil
        rw [hpg] at hb6
        have hf9 : Fr (fun b => b = bf) w1 w6 := HF.out.trans (((HW.out.2.drew).mono (fun _ _ q => q.elim)).trans hf6 (fun _ _ q => q)) (fun _ _ q => q)
        have H9 := Lib.hid (And.intro hb6 hf9)
        clear hpg hf9 hb6 hf6 hcp hS0 hfm
        go_wp2_with fail
        refine ⟨⟨i + 1, by norm_cast, by omega, Lib.hid H9.out.1, Lib.hid H9.out.2⟩, ?_⟩
        simp only [intOf]
        omega
    · refine wpOp_value (w' := (wr.drew.alloc (.cells Tryz.zeroCells83 83))) 8 (.pointer (some ⟨wr.heap.size, 0, none⟩)) rfl rfl (by rfl) (by go_simp) ⟨hS0.alloc _, ?_⟩
      (simp only [sA, sB, sC])
      have hb16 : Blk (wr.drew.alloc (.cells Tryz.zeroCells83 83)) wr.heap.size 83 (cellsB (nought 128)).toArray := by
       rw [zeroSecCells]
       exact Blk.new wr.drew 83 (cellsB (nought 128)).toArray
      have hS2 := hS0.alloc (.cells Tryz.zeroCells83 83)
      clear hS0
      have hS0 := hS2
      clear hS2
      refine anyH_enter 9 26 (f := 61) (args := #[(.int .i64 (z : Nat)), (.int .i64 (n : Nat))]) (by kernel_rfl) rfl rfl (by rfl) (by go_simp) ?_
      refine (HPO.out _ hS0).mono ?_
      rintro e w2 ⟨rfl, rfl⟩
      refine ⟨_, rfl, hS0, ?_⟩
      (simp only [sA, sB, sC])
      refine anyH_tk 11 28 (.int .i64 (ix : Nat)) rfl rfl (.inl ⟨by rfl, fun w'' hS => by go_simp⟩) hS0 ?_
      (simp only [sA, sB, sC])
      refine anyH_enter 12 29 (f := 116) (args := #[(.pointer (some ⟨g, 0, none⟩)), (.int .i64 (ix : Nat))]) (by kernel_rfl) rfl rfl (by rfl) (by go_simp) ?_
      refine (HRD.out _ hS0).mono ?_
      rintro e w2 ⟨rfl, f2⟩
      refine ⟨_, rfl, hS0.trans f2 (fun _ _ q => q), ?_⟩
      (simp only [sA, sB, sC])
      have hS1 := hS0.trans f2 (fun _ _ q => q)
      clear hS0
      have hS0 := hS1
      clear hS1
      have hkb := hb16.keep f2 (fun q => q)
      clear hb16 f2
      refine anyH_tk 13 16 (.tuple #[av s, .int .i64 0]) rfl rfl (.inl ⟨by rfl, fun w'' hS => by go_simp⟩) hS0 ?_
      (simp only [sA, sB, sC])
      refine anyH_tk 14 30 (av s) rfl rfl (.inl ⟨by rfl, fun w'' hS => by go_simp⟩) hS0 ?_
      (simp only [sA, sB, sC])
      refine anyH_tk 15 31 (.int .i64 0) rfl rfl (.inl ⟨by rfl, fun w'' hS => by go_simp⟩) hS0 ?_
      (simp only [sA, sB, sC])
      refine anyH_skip 17 (w2.setCells wr.heap.size 0 (cellsB s)) (by kernel_rfl) rfl rfl (by rfl) (run_store_mid 83 _ _ rfl wr.heap.size 0 (cellsB s).toArray rfl rfl (hkb.there (by simp [cellsB_len, nought_len, HS.out.2.2])) (by rw [infoSector]; simp [cellsB_len, HS.out.2.2]) (all_oneCell_toArray (cellsB_one _))) (Fr.setCells (.inr (Nat.le_refl _)) hS0) ?_
      have hSw : Fr (fun _ => False) wr (w2.setCells wr.heap.size 0 (cellsB s)) := Fr.setCells (.inr (Nat.le_refl _)) hS0
      clear hS0
      have hS0 := hSw
      refine anyH_tk 18 9 (.int .i64 0) rfl rfl (.inl ⟨by rfl, fun w'' hS => by go_simp⟩) hS0 ?_
      (simp only [sA, sB, sC])
      have hbs := hkb.over (o := 0) (m := s) (by rw [nought_len, HS.out.2.2]; omega)
      rw [patch_all (by rw [nought_len, HS.out.2.2])] at hbs
      clear hkb
      obtain ⟨Ws, hWs⟩ : ∃ x, x = w2.setCells wr.heap.size 0 (cellsB s) := ⟨_, rfl⟩
      rw [← hWs] at hSw hbs
      rw [← hWs]
      clear hWs
      refine wpAnyH_done (by kernel_rfl) ?_ _
      obtain ⟨B8, hB8⟩ : ∃ x, x = wr.heap.size := ⟨_, rfl⟩
      try rw [← hB8] at hbs
      try rw [← hB8]
      have HW := Lib.hid (And.intro hbs hSw)
      clear hbs hSw hS0 hwi hB8
      go_wp2_with fail
      have hsz8 : (pgUp d z n i).length = 512 := pgUp_len H0.out.2.1.all128 H0.out.2.2 hi4
      obtain ⟨w6, hcp, hb6, hf6⟩ := fr_copy (w := Ws.drew) ((HB.out.keep HW.out.2 (fun q => q)).keep (F := fun _ => False) ((Fr.refl _ Ws).drew) (fun q => q)) (HW.out.1.keep (F := fun _ => False) ((Fr.refl _ Ws).drew) (fun q => q)) hsz8 HS.out.2.2 hil
      have hfm := frame_from bf (z := (i : Int) * 128) (o := i * 128) (by omega) (by omega)
      have hw1 : IntKind.i64.wrap ((i : Int) * 128) = (i : Int) * 128 := by simp [IntKind.wrap, IntKind.signed, IntKind.bits]; omega
      clear hsz8
      refine wp_region_held_drew (S := fun w' => Fr (fun b => b = bf) Ws.drew w') (by kernel_rfl) (Fr.refl _ _) (fun hS0 => ?_)
      refine anyH_tk 0 35 (.pointer (some ⟨bf, 0, none⟩)) rfl rfl (.inl ⟨by rfl, fun w'' hS => by go_simp⟩) hS0 ?_
      (simp only [sA, sB, sC])
      refine anyH_tk 1 36 (.pointer (some ⟨bf, 0, none⟩)) rfl rfl (.inl ⟨by rfl, fun w'' hS => by go_simp⟩) hS0 ?_
      (simp only [sA, sB, sC])
      refine anyH_tk 2 37 (.pointer (some ⟨bf, 1, none⟩)) rfl rfl (.inl ⟨by rfl, fun w'' hS => by go_simp⟩) hS0 ?_
      (simp only [sA, sB, sC])
      refine anyH_tk 3 38 (.int .i64 (i : Nat)) rfl rfl (.inl ⟨by rfl, fun w'' hS => by go_simp⟩) hS0 ?_
      (simp only [sA, sB, sC])
      refine anyH_tk 4 39 (.int .i64 ((i : Int) * 128)) rfl rfl (.inl ⟨by rfl, fun w'' hS => by go_simp⟩) hS0 ?_
      (simp only [sA, sB, sC])
      refine anyH_tk 5 40 (.slice (some ⟨bf, 1 + i * 128, none⟩) (512 - i * 128) (512 - i * 128)) rfl rfl (.inl ⟨by rfl, fun w'' hS => by go_simp⟩) hS0 ?_
      (simp only [sA, sB, sC])
      refine anyH_tk 6 41 (.slice (some ⟨B8, 0, none⟩) 128 128) rfl rfl (.inl ⟨by rfl, fun w'' hS => by go_simp⟩) hS0 ?_
      (simp only [sA, sB, sC])
      refine anyH_value 7 42 (goInt 128) w6 (by kernel_rfl) rfl rfl (by rfl) (run_copy_u8 (.tmp 40) (.tmp 41) rfl rfl rfl (hcp _)) hf6 ?_
      (simp only [sA, sB, sC])
      refine wpAnyH_done (by kernel_rfl) ?_ _
      clear hw1
      have hpg : patch (pgUp d z n i) (i * 128) s = pgUp d z n (i + 1) := by
       rw [HS.out.2.1, HS.out.1]
       have h1 := H0.out.2.1.all128
       exact pgUp_next h1 H0.out.2.2 hil
      rw [hpg] at hb6
      have hf9 : Fr (fun b => b = bf) w1 w6 := HF.out.trans (((HW.out.2.drew).mono (fun _ _ q => q.elim)).trans hf6 (fun _ _ q => q)) (fun _ _ q => q)
      have H9 := Lib.hid (And.intro hb6 hf9)
      clear hpg hf9 hb6 hf6 hcp hS0 hfm
      go_wp2_with fail
      refine ⟨⟨i + 1, by norm_cast, by omega, Lib.hid H9.out.1, Lib.hid H9.out.2⟩, ?_⟩
      simp only [intOf]
      omega
  · have hi4e : i = 4 := by omega
    subst hi4e
    clear hil hi4
    go_wp2_with fail
    refine bodyPost_ret (results_tmp2 rfl _ _ _) rfl ?_
    exact ⟨bf, rfl, by rw [HBF.out]; exact Nat.le_refl _, by rw [← pgUp_four]; exact HB.out, by rw [← pgUp_four]; exact pgUp_len H0.out.2.1.all128 H0.out.2.2 (Nat.le_refl _), HA.out.2.trans HF.out (fun b hb q => by rw [q, HBF.out] at hb; omega)⟩
end Go.Proofs.YtcnlgbjkjlbmbaaGreat

namespace Go.Proofs.YtcnlgbjkjlbmbaaGreat
open Go.RowKit Go.Sort Go.Shelf

def encO : Option Nat → Value
 | some b => .pointer (some ⟨b, 0, none⟩)
 | none => .pointer none
set_option maxRecDepth 100000 in
theorem encO_one : OneCell encO := fun x => by cases x <;> rfl
abbrev frP (b : Nat) : Value := .pointer (some ⟨b, 0, none⟩)
set_option maxRecDepth 100000 in
theorem put_take {α : Type} [Inhabited α] (enc : α → Value) (cur : Array Value) (ts : List α) (n : Nat) (hn : n ≤ ts.length) (h : ts.length ≤ cur.size) : (putCells enc 0 ts.toArray cur).toList.take n = (ts.take n).map enc := by
 apply List.ext_getElem?
 intro j
 by_cases hj : j < n
 · rw [List.getElem?_take_of_lt hj, Array.getElem?_toList, List.getElem?_map, List.getElem?_take_of_lt hj]
   simp [putCells, show j < ts.length by omega, show j < cur.size by omega]
 · rw [List.getElem?_take_eq_none (by omega), List.getElem?_eq_none (by simp; omega)]
set_option maxRecDepth 100000 in
theorem zeroFp : ∀ w, (zeroValue 93).run Tryz.prog w = .ok (encO none) w := fun w => Tryz.zeroValue93 w
set_option maxRecDepth 100000 in
theorem infoFp : (Tryz.prog.info? 93).map (fun i => (i.zero, i.size, i.bytes)) = some (some (.pointer none), 1, 8) := by kernel_rfl
set_option maxRecDepth 100000 in
set_option maxHeartbeats 2000000 in
theorem fdelete_any {w : World} {v : Value} {bs : List Nat} {i : Nat} (h : w.ownsRow 0 93 1 v bs.length (bs.map frP)) (hi : i < bs.length) :
 Calls Tryz.prog 80 #[v, .int .i64 (i : Nat), .int .i64 ((i + 1 : Nat) : Int)] w fun e w' => ∃ v', e = .returned v' ∧ w'.ownsRow 0 93 1 v' (bs.length - 1) ((bs.take i ++ bs.drop (i + 1)).map frP) ∧ v'.ownBlock = v.ownBlock ∧ Fr (fun k => v.ownBlock = some k) w w' := by
 obtain ⟨h1, ⟨rfl, h0⟩ | ⟨g, cap, cur, rfl, hb, hg, hc1, hc2, hc3, hc4⟩⟩ := h
 · omega
 · obtain ⟨i0, hi0, hz0, hz1, hz2⟩ := info_parts infoFp
   rw [Nat.mul_one] at hc4 hc3
   have hH : Holds encO w g 0 ((bs.map some).toArray) := fun j hj => by
    have hjl : j < bs.length := by simpa using hj
    have hcell : w.cell? ⟨g, 0 + j, none⟩ = cur[j]? := by rw [Nat.zero_add]; simp [World.cell?, hg]
    refine ⟨?_, by simp [World.frozen?, hg]⟩
    have h5 : (cur.toList.take bs.length)[j]? = (bs.map frP)[j]? := by rw [hc4]
    rw [List.getElem?_take_of_lt hjl, Array.getElem?_toList, List.getElem?_map, List.getElem?_eq_getElem hjl] at h5
    rw [hcell, h5]
    simp [encO, hjl]
   have hcl := AnyE.slices_Delete (α := Option Nat) (ρ := Tryz.delF_ren) Tryz.delF encO encO_one none zeroFp i0 hi0 hz1 g 0 cap i (i + 1) ((bs.map some).toArray) w hH (by simpa using hc1) (by simp only [maxLen] at hc2; omega) (by omega) (by simp; omega)
   have hs : ((bs.map some).toArray).size = bs.length := by simp
   rw [hs] at hcl
   refine hcl.mono ?_
   rintro e w' ⟨rfl, q, rfl⟩
   have e1 : i + 1 - i = 1 := by omega
   rw [e1]
   obtain ⟨ts, hts⟩ : ∃ ts, ts = ((bs.map some).toArray).toList.take i ++ ((bs.map some).toArray).toList.drop (i + 1) ++ List.replicate 1 (none : Option Nat) := ⟨_, rfl⟩
   have htl : ts.length = bs.length := by rw [hts]; simp; omega
   have htt : ts.take (bs.length - 1) = (bs.take i ++ bs.drop (i + 1)).map some := by
    rw [hts, List.take_left' (by simp; omega)]
    simp
   rw [← hts]
   refine ⟨_, rfl, ⟨by simp; omega, .inr ⟨g, cap, putCells encO 0 ts.toArray cur, rfl, hb, ?_, by omega, hc2, by simp [putCells, hc3], ?_⟩⟩, rfl, ?_⟩
   · simp [putRow, mapBlock, Sort.ahead, Array.getElem?_modify, hg, onCells]
   · rw [Nat.mul_one, put_take encO cur ts _ (by omega) (by omega), htt, List.map_map]
     rfl
   · refine ⟨rfl, rfl, rfl, by simp [Sort.ahead], fun k hk hne => ?_⟩
     have : g ≠ k := fun e => hne (by rw [e]; rfl)
     simp [putRow, mapBlock, Sort.ahead, Array.getElem?_modify, this]
end Go.Proofs.YtcnlgbjkjlbmbaaGreat

namespace Go.Proofs.YtcnlgbjkjlbmbaaGreat
open Go.RowKit Go.Sort Go.Shelf Go.Lib

set_option maxRecDepth 100000 in
theorem lift1_any {W : World} {b x n m : Nat} (hb : W.cell? ⟨b, 0, none⟩ = some (.int .i64 (m : Nat))) (hx : W.cell? ⟨x, 0, none⟩ = some (.int .i64 (n : Nat))) :
 Calls Tryz.prog 109 #[frP b, .pointer (some ⟨x, 0, none⟩)] W fun e w' => e = .returned (.bool (m == n)) ∧ ∃ q, w' = W.drewN q := by
 go_enter Tryz.func109, Tryz.ntmps109
 go_wp2_with fail
 go_region
 go_wp2_with fail
 go_ret
 have hmn : ((m : Int) == (n : Int)) = (m == n) := by
  rw [Bool.eq_iff_iff]
  simp
  omega
 refine ⟨?_, 1, rfl⟩
 simp only [hmn]
 rfl
set_option maxRecDepth 100000 in
set_option maxHeartbeats 2000000 in
theorem findex_any {w : World} {v : Value} {cl : List (Nat × List UInt8)} {x n : Nat} (h : FrV w v cl) (hx : w.cell? ⟨x, 0, none⟩ = some (.int .i64 (n : Nat))) (hxl : x < w.heap.size) :
 Calls Tryz.prog 108 #[v, .func (.func 109) #[] #[.pointer (some ⟨x, 0, none⟩)]] w fun e w' => (e = .returned (.int .i64 (match cl.findIdx? (fun c => c.1 == n) with | some k => (k : Int) | none => -1))) ∧ Fr (fun _ => False) w w' := by
 obtain ⟨bs, hown, hbl, hall⟩ := h
 obtain ⟨h1, ⟨rfl, h0⟩ | ⟨g, cap, cur, rfl, hb, hg, hc1, hc2, hc3, hc4⟩⟩ := hown
 · have hcl : cl = [] := List.length_eq_zero_iff.1 h0
   subst hcl
   refine (AnyE.slices_IndexFunc_empty (ρ := Tryz.idxF_ren) Tryz.idxF none 0 (.func (.func 109) #[] #[.pointer (some ⟨x, 0, none⟩)]) w).mono ?_
   rintro e w' ⟨rfl, rfl⟩
   exact ⟨rfl, Fr.refl _ _⟩
 · rcases Nat.eq_zero_or_pos cl.length with h0 | h0
   · have hcl : cl = [] := List.length_eq_zero_iff.1 h0
     subst hcl
     refine (AnyE.slices_IndexFunc_empty (ρ := Tryz.idxF_ren) Tryz.idxF (some ⟨g, 0, none⟩) cap (.func (.func 109) #[] #[.pointer (some ⟨x, 0, none⟩)]) w).mono ?_
     rintro e w' ⟨rfl, rfl⟩
     exact ⟨rfl, Fr.refl _ _⟩
   · rw [Nat.mul_one] at hc4 hc3
     haveI : Inhabited (Fin cl.length) := ⟨⟨0, h0⟩⟩
     obtain ⟨zs, hzs⟩ : ∃ zs, zs = List.ofFn (fun k : Fin cl.length => k) := ⟨_, rfl⟩
     have hzl : zs.length = cl.length := by rw [hzs]; simp
     have hzg : ∀ (j : Nat) (hj : j < cl.length), zs[j]! = ⟨j, hj⟩ := fun j hj => by
      rw [getElem!_pos zs j (by omega)]
      subst hzs
      simp
     have hcell : ∀ (k : Fin cl.length), w.cell? ⟨bs[k.1]'(by rw [hbl]; exact k.2), 0, none⟩ = some (.int .i64 ((cl[k.1].1 : Nat) : Int)) ∧ bs[k.1]'(by rw [hbl]; exact k.2) < w.heap.size := fun k => by
      have h3 := (hall k.1 _ _ (List.getElem?_eq_getElem (by rw [hbl]; exact k.2)) (List.getElem?_eq_getElem k.2)).1
      refine ⟨?_, h3.lt⟩
      rw [h3.cell]
      simp
     have hp : PredAt Tryz.prog 109 #[.pointer (some ⟨x, 0, none⟩)] (fun k : Fin cl.length => frP (bs[k.1]'(by rw [hbl]; exact k.2))) (fun k => cl[k.1].1 == n) w := fun W k hW => by
      have h4 := hcell k
      have h5 : ∀ a : Nat, a < w.heap.size → W.cell? ⟨a, 0, none⟩ = w.cell? ⟨a, 0, none⟩ := fun a ha => (Fr.of_below (F := fun _ => False) hW).cell ha (fun q => q)
      exact lift1_any (by rw [h5 _ h4.2]; exact h4.1) (by rw [h5 _ hxl]; exact hx)
     have hct : ∀ j, j < zs.length → w.cell? ⟨g, 0 + j, none⟩ = some ((fun k : Fin cl.length => frP (bs[k.1]'(by rw [hbl]; exact k.2))) zs[j]!) := fun j hj => by
      have hjl : j < cl.length := by omega
      rw [hzg j hjl]
      have h5 : (cur.toList.take cl.length)[j]? = (bs.map frP)[j]? := by rw [hc4]
      rw [List.getElem?_take_of_lt hjl, Array.getElem?_toList, List.getElem?_map, List.getElem?_eq_getElem (by omega)] at h5
      have h6 : w.cell? ⟨g, 0 + j, none⟩ = cur[j]? := by rw [Nat.zero_add]; simp [World.cell?, hg]
      rw [h6, h5]
      rfl
     have hcall := AnyE.slices_IndexFunc (ρ := Tryz.idxF_ren) Tryz.idxF _ _ 109 #[.pointer (some ⟨x, 0, none⟩)] (enters_of Tryz.func109 (by kernel_rfl) rfl) g 0 cl.length cap zs w hp (by omega) (by simp only [maxLen] at hc2; omega) hct
     refine hcall.mono ?_
     rintro e w' ⟨rfl, q, rfl⟩
     refine ⟨?_, (Fr.refl _ w).drewN q⟩
     congr 2
     cases hf : cl.findIdx? (fun c => c.1 == n) with
     | some k =>
       obtain ⟨hk, hk1, hk2⟩ := List.findIdx?_eq_some_iff_getElem.1 hf
       exact idxBy_hit (fun _ (y : Fin cl.length) => cl[y.1].1 == n) zs cl.length k default hk (by omega) (by rw [hzg k hk]; exact hk1) (fun j hj => by rw [hzg j (by omega)]; simpa using hk2 j hj)
     | none =>
       have h7 := List.findIdx?_eq_none_iff.1 hf
       exact idxBy_miss (fun _ (y : Fin cl.length) => cl[y.1].1 == n) zs cl.length default (fun j hj => by rw [hzg j hj]; exact h7 _ (List.getElem_mem _))
end Go.Proofs.YtcnlgbjkjlbmbaaGreat

namespace Go.Proofs.YtcnlgbjkjlbmbaaGreat
open Go.RowKit Go.Sort Go.Shelf Go.Lib

set_option maxRecDepth 100000 in
theorem FrV.keep {F : Nat → Prop} {w w' : World} {v : Value} {cl : List (Nat × List UInt8)} (h : FrV w v cl) (f : Fr F w w') (h1 : ∀ k, v.ownBlock = some k → ¬ F k) (h2 : ∀ k cs, Blk w k 95 cs → ¬ F k) : FrV w' v cl := by
 obtain ⟨bs, a, b, c⟩ := h
 exact ⟨bs, own_keep a f h1, b, fun i k x q r => ⟨(c i k x q r).1.keep f (h2 _ _ (c i k x q r).1), (c i k x q r).2⟩⟩
set_option maxRecDepth 100000 in
theorem own_cell1 {w : World} {base e n i : Nat} {v u : Value} {xs : List Value} (h : w.ownsRow base e 1 v n xs) (hu : xs[i]? = some u) : ∃ g cap, v = .slice (some ⟨g, 0, none⟩) n cap ∧ w.cell? ⟨g, i, none⟩ = some u := by
 obtain ⟨h1, ⟨rfl, h0⟩ | ⟨g, cap, cur, rfl, hb, hg, hc1, hc2, hc3, hc4⟩⟩ := h
 · have : xs = [] := List.length_eq_zero_iff.1 (by omega)
   rw [this] at hu
   cases hu
 · refine ⟨g, cap, rfl, ?_⟩
   have hi : i < n * 1 := by rw [← h1]; exact (List.getElem?_eq_some_iff.1 hu).1
   rw [← hc4, List.getElem?_take_of_lt hi, Array.getElem?_toList] at hu
   simp [World.cell?, hg, hu]
def liftC (d : DS) (z : Nat) (cl : List (Nat × List UInt8)) (n : Nat) : Nat × List UInt8 := match cl.findIdx? (fun c => c.1 == n) with
 | some k => cl.getD k (0, [])
 | none => (n, pgAt d z n)
def liftL (cl : List (Nat × List UInt8)) (n : Nat) : List (Nat × List UInt8) := match cl.findIdx? (fun c => c.1 == n) with
 | some k => cl.eraseIdx k
 | none => cl
set_option maxRecDepth 100000 in
set_option maxHeartbeats 4000000 in
theorem pllift_any {w : World} {p g z fr lb M1 M2 : Nat} {v : Value} {dd : Bool} {B : Nat} {P : Nat → Prop} {d : DS} {cl : List (Nat × List UInt8)} (h : PlB w p g z fr lb M1 M2 v dd) (hf : FrV w v cl) (hd : DAt w B P g d) {n : Nat} (hz : z ≤ 4000) (hn : n ≤ 2000) (hl : 1 + z + 4 * n + 4 ≤ d.rd.length) (hcl : cl.length ≤ 100000) :
 Calls Tryz.prog 79 #[.pointer (some ⟨p, 0, none⟩), .int .i64 (n : Nat)] w fun e w' => ∃ b v', e = .returned (.tuple #[frP b, .int .i64 0]) ∧ Blk w' b 95 (frC (liftC d z cl n)) ∧ (liftC d z cl n).2.length = 512 ∧ FrV w' v' (liftL cl n) ∧ PlB w' p g z fr lb M1 M2 v' dd ∧ v'.ownBlock = v.ownBlock ∧ Fr (fun k => k = p ∨ v.ownBlock = some k) w w' := by
 obtain ⟨c0, c1, c2, c3, c4, c5, c6, c7⟩ := pl_cells h
 have H0 := Lib.hid (And.intro h (And.intro hf (And.intro hd hl)))
 have hxb : ∀ t, (w.alloc (.cells #[.int .i64 (n : Nat)] t)).cell? ⟨w.heap.size, 0, none⟩ = some (.int .i64 (n : Nat)) := fun t => by
  have := (Blk.new w t #[.int .i64 (n : Nat)]).cell 0
  rw [this]
  rfl
 have h1 := h.keep (F := fun _ => False) ((Fr.refl _ w).alloc (.cells #[.int .i64 (n : Nat)] 3)) (fun q => q)
 have k6 := (pl_cells h1).2.2.2.2.2.2.1
 have HIX : Hid (∀ t, Calls Tryz.prog 108 #[v, .func (.func 109) #[] #[.pointer (some ⟨w.heap.size, 0, none⟩)]] (w.alloc (.cells #[.int .i64 (n : Nat)] t)) fun e w' => (e = .returned (.int .i64 (match cl.findIdx? (fun c => c.1 == n) with | some k => (k : Int) | none => -1))) ∧ Fr (fun _ => False) (w.alloc (.cells #[.int .i64 (n : Nat)] t)) w') := Lib.hid fun t =>
  findex_any (hf.keep ((Fr.refl (fun _ => False) w).alloc _) (fun _ _ q => q) (fun _ _ _ q => q)) (hxb t) (by simp)
 have HXB := Lib.hid hxb
 clear h hf hd hl hxb h1 c0 c1 c2 c3 c4 c5 c7
 go_enter Tryz.func79, Tryz.ntmps79
 go_wp2_with fail
 refine (HIX.out _).mono ?_
 rintro e w2 ⟨rfl, f2⟩
 have F2 : Fr (fun _ => False) w w2 := ((Fr.refl _ w).alloc _).trans f2 (fun _ _ q => q)
 have hp2 := H0.out.1.keep F2 (fun q => q)
 have hf2 := H0.out.2.1.keep F2 (fun _ _ q => q) (fun _ _ _ q => q)
 have hx2 : w2.cell? ⟨w.heap.size, 0, none⟩ = some (.int .i64 (n : Nat)) := by rw [f2.cell (by simp) (fun q => q)]; exact HXB.out _
 clear k6 c6 f2
 cases hk : cl.findIdx? (fun c => c.1 == n) with
 | none =>
   have hlc : liftC d z cl n = (n, pgAt d z n) := by unfold liftC; rw [hk]
   have hll : liftL cl n = cl := by unfold liftL; rw [hk]
   have HRE := Lib.hid (plread_any hp2 (H0.out.2.2.1.new F2) hz hn H0.out.2.2.2)
   have H2 := Lib.hid (And.intro hp2 (And.intro hf2 (And.intro F2 (And.intro hlc hll))))
   clear hp2 hf2 F2 hlc hll hk
   simp only []
   go_wp2_with fail
   refine HRE.out.mono ?_
   rintro e w3 ⟨b, rfl, hb1, hb2, hb3, f3⟩
   have hp3 := H2.out.1.keep f3 (fun q => q)
   have hf3 := H2.out.2.1.keep f3 (fun _ _ q => q) (fun _ _ _ q => q)
   have H3 := Lib.hid (And.intro hb2 (And.intro hb3 (And.intro hp3 (And.intro hf3 (H2.out.2.2.1.trans f3 (fun _ _ q => q))))))
   clear hb1 hb2 hb3 hp3 hf3 f3 hx2
   go_wp2_with fail
   refine bodyPost_ret (results_tmp2 rfl _ _ _) rfl ?_
   rw [H2.out.2.2.2.1, H2.out.2.2.2.2]
   exact ⟨b, v, rfl, H3.out.1, H3.out.2.1, H3.out.2.2.2.1, H3.out.2.2.1, rfl, H3.out.2.2.2.2.mono (fun _ _ q => q.elim)⟩
 | some k =>
   have hlc : liftC d z cl n = cl.getD k (0, []) := by unfold liftC; rw [hk]
   have hll : liftL cl n = cl.eraseIdx k := by unfold liftL; rw [hk]
   have hkl := (List.findIdx?_eq_some_iff_getElem.1 hk).choose
   obtain ⟨bs, hown, hbl, hall⟩ := hf2
   have hkb : k < bs.length := by omega
   obtain ⟨b, hb⟩ : ∃ b, bs[k]? = some b := ⟨_, List.getElem?_eq_getElem hkb⟩
   obtain ⟨g1, cap, hvA, hcell⟩ := own_cell1 hown (i := k) (u := frP b) (by rw [List.getElem?_map, hb]; rfl)
   have hown' := hown
   rw [← hbl] at hown'
   have HDE := Lib.hid (fdelete_any hown' hkb)
   have hnp := own_ne hown hp2 (by decide)
   obtain ⟨m, hm⟩ : ∃ m, m = cl.length := ⟨_, rfl⟩
   have hkm : (k : Int) < (m : Int) := by omega
   have hk0 : (0 : Int) ≤ (k : Int) := by omega
   have hm5 : m ≤ 100000 := by omega
   have hwk : IntKind.i64.wrap ((k : Int) + 1) = (k : Int) + 1 := by simp [IntKind.wrap, IntKind.signed, IntKind.bits]; omega
   have k6 := (pl_cells hp2).2.2.2.2.2.2.1
   have H2 := Lib.hid (And.intro hp2 (And.intro F2 (And.intro hlc (And.intro hll (And.intro hown (And.intro hbl (And.intro hall (And.intro hb (And.intro hnp (And.intro hm (And.intro hkl hk)))))))))))
   subst hvA
   rw [← hm] at k6
   have HDE2 : Hid (Calls Tryz.prog 80 #[.slice (some ⟨g1, 0, none⟩) m cap, .int .i64 (k : Int), .int .i64 ((k : Int) + 1)] w2 fun e w' => ∃ v', e = .returned v' ∧ w'.ownsRow 0 93 1 v' (bs.length - 1) ((bs.take k ++ bs.drop (k + 1)).map frP) ∧ v'.ownBlock = (Value.slice (some ⟨g1, 0, none⟩) cl.length cap).ownBlock ∧ Fr (fun k => (Value.slice (some ⟨g1, 0, none⟩) cl.length cap).ownBlock = some k) w2 w') := Lib.hid (by
    have := HDE.out
    rw [hm]
    exact this)
   clear hp2 F2 hlc hll hk hown hbl hall hb hnp hm hkl hown' HDE hkb hx2
   simp only []
   have HM := H2.out.2.2.2.2.2.2.2.2.2.1
   rw [← HM]
   clear HM
   go_wp2_with fail
   refine HDE2.out.mono ?_
   rintro e w3 ⟨v', rfl, ho3, hb3, f3⟩
   have hp3 := H2.out.1.keep f3 (fun q => H2.out.2.2.2.2.2.2.2.2.1 q)
   obtain ⟨A3, m3, c3, hv3⟩ := own_form ho3
   have hth3 := hp3.there (o := 6) (n := 1) (by simp)
   have hs3 := hp3.set_ 6 v'
   have hp4 : PlB (w3.setCell ⟨p, 6, none⟩ v') p g z fr lb M1 M2 v' dd := hs3
   have f34 := (Fr.refl (fun q => q = p) w3).setCell (p := ⟨p, 6, none⟩) (.inl rfl) v'
   have H3 := Lib.hid (And.intro ho3 (And.intro hb3 (And.intro f3 (And.intro hp3 (And.intro hp4 f34)))))
   have k6' := (pl_cells hp3).2.2.2.2.2.2.1
   have z6 := hp3.frozen 6
   subst hv3
   clear ho3 hb3 f3 hp3 hs3 hp4 f34 hth3 k6 hcell
   go_wp2_with fail
   refine bodyPost_ret (results_tmp2 rfl _ _ _) rfl ?_
   obtain ⟨hp2, F2, hlc, hll, hown, hbl, hall, hb, hnp, hm, hkl, hk⟩ := H2.out
   obtain ⟨ho3, hb3, f3, hp3, hp4, f34⟩ := H3.out
   rw [hlc, hll]
   have hck : cl[k]? = some (cl.getD k (0, [])) := by simp [hkl]
   have hfr : ∀ (q : Nat) (cs : Array Value), Blk w2 q 95 cs → Blk (w3.setCell ⟨p, 6, none⟩ (.slice A3 m3 c3)) q 95 cs := fun q cs hq =>
    (hq.keep f3 (own_ne hown hq (by decide))).keep f34 (fun e => absurd (blk_type (e ▸ hq.keep f3 (own_ne hown hq (by decide))) hp3) (by decide))
   have hb9 := hall k b _ hb hck
   have hle : (cl.eraseIdx k).length = bs.length - 1 := by rw [List.length_eraseIdx_of_lt hkl, hbl]
   have how4 := own_keep ho3 f34 (fun q hq e => hnp (by rw [← hb3, hq, e]))
   rw [← List.eraseIdx_eq_take_drop_succ, ← hle] at how4
   refine ⟨b, _, rfl, hfr _ _ hb9.1, hb9.2, ⟨bs.eraseIdx k, how4, by rw [hle, List.length_eraseIdx_of_lt (by omega)], fun i b' c' h1 h2 => ?_⟩, hp4, hb3, ?_⟩
   · rw [List.getElem?_eraseIdx] at h1 h2
     by_cases hik : i < k
     · rw [if_pos hik] at h1 h2
       exact ⟨hfr _ _ (hall _ _ _ h1 h2).1, (hall _ _ _ h1 h2).2⟩
     · rw [if_neg hik] at h1 h2
       exact ⟨hfr _ _ (hall _ _ _ h1 h2).1, (hall _ _ _ h1 h2).2⟩
   · exact ((F2.mono (fun _ _ q => q.elim)).trans f3 (fun _ _ q => .inr q)).trans f34 (fun _ _ q => .inl q)
end Go.Proofs.YtcnlgbjkjlbmbaaGreat

namespace Go.Proofs.YtcnlgbjkjlbmbaaGreat
open Go.RowKit

def putsL (l : List (List UInt8)) (ps : List (Nat × List UInt8)) : List (List UInt8) := ps.foldl (fun l p => l.set p.1 p.2) l
set_option maxRecDepth 100000 in
theorem puts_alive : ∀ {ps : List (Nat × List UInt8)} {d : DS}, (d.puts ps).alive = true → (d.puts ps).rd = putsL d.rd ps := by
 intro ps
 induction ps with
 | nil => intro d _; rfl
 | cons p ps ih =>
   intro d ha
   have h1 := ih (d := d.write p.1 p.2) ha
   show ((d.write p.1 p.2).puts ps).rd = putsL (d.rd.set p.1 p.2) ps
   rw [h1]
   congr 1
   by_cases hd : d.alive = true
   · unfold DS.write
     rw [if_pos hd]
     rfl
   · have hd2 : d.alive = false := by simpa using hd
     have := (puts_dead hd2 (p :: ps)).1
     rw [ha] at this
     cases this
set_option maxRecDepth 100000 in
theorem putsL_other {j : Nat} : ∀ {ps : List (Nat × List UInt8)} {l : List (List UInt8)}, (∀ p ∈ ps, p.1 ≠ j) → (putsL l ps).getD j [] = l.getD j []
 | [], _, _ => rfl
 | p :: ps, l, h => by
   have h1 := putsL_other (j := j) (ps := ps) (l := l.set p.1 p.2) (fun q hq => h q (by simp [hq]))
   exact h1.trans (getD_set_ne (h p (by simp)))
set_option maxRecDepth 100000 in
theorem putsL_get {j : Nat} {x : List UInt8} : ∀ {ps : List (Nat × List UInt8)} {l : List (List UInt8)}, (∀ p ∈ ps, p.1 = j → p.2 = x) → ((∃ p ∈ ps, p.1 = j) ∨ l.getD j [] = x) → j < l.length → (putsL l ps).getD j [] = x
 | [], _, _, h2, _ => h2.elim (fun ⟨p, hp, _⟩ => absurd hp (by simp)) id
 | p :: ps, l, h1, h2, hj => by
   refine putsL_get (ps := ps) (l := l.set p.1 p.2) (fun q hq => h1 q (by simp [hq])) ?_ (by rw [List.length_set]; exact hj)
   by_cases e : p.1 = j
   · right
     rw [e, getD_set_self hj]
     exact h1 p (by simp) e
   · rw [getD_set_ne e]
     rcases h2 with ⟨q, hq, h3⟩ | h2
     · rcases List.mem_cons.1 hq with rfl | hq
       · exact absurd h3 e
       · exact .inl ⟨q, hq, h3⟩
     · exact .inr h2
set_option maxRecDepth 100000 in
theorem putsL_all : ∀ {ps : List (Nat × List UInt8)} {l : List (List UInt8)}, (∀ x ∈ l, x.length = 128) → (∀ p ∈ ps, p.2.length = 128) → ∀ x ∈ putsL l ps, x.length = 128
 | [], _, h, _ => h
 | p :: ps, l, h, hp => putsL_all (ps := ps) (l := l.set p.1 p.2) (fun x hx => by
    rcases List.mem_or_eq_of_mem_set hx with y | y
    · exact h x y
    · rw [y]; exact hp p (by simp)) (fun q hq => hp q (by simp [hq]))
set_option maxRecDepth 100000 in
theorem page_parts {x : List UInt8} (h : x.length = 512) : ((List.range 4).flatMap fun i => (x.drop (i * 128)).take 128) = x := by
 have e : (List.range 4).flatMap (fun i => (x.drop (i * 128)).take 128) = (x.drop 0).take 128 ++ ((x.drop 128).take 128 ++ ((x.drop 256).take 128 ++ ((x.drop 384).take 128 ++ []))) := rfl
 have e3 : (x.drop 384).take 128 = x.drop 384 := List.take_of_length_le (by rw [List.length_drop]; omega)
 have e2 : (x.drop 256).take 128 ++ x.drop 384 = x.drop 256 := by
  have := List.take_append_drop 128 (x.drop 256)
  rwa [List.drop_drop] at this
 have e1 : (x.drop 128).take 128 ++ x.drop 256 = x.drop 128 := by
  have := List.take_append_drop 128 (x.drop 128)
  rwa [List.drop_drop] at this
 rw [e, List.append_nil, e3, e2, e1, List.drop_zero, List.take_append_drop]
set_option maxRecDepth 100000 in
theorem body_low {d d' : DS} {z : Nat} (hl : d'.rd.length = d.rd.length) (hs : ∀ j, 1 ≤ j → j ≤ z → d'.rd.getD j [] = d.rd.getD j []) (hz : z + 1 ≤ d.rd.length) : bodyOf d' z = bodyOf d z := by
 apply List.ext_getElem?
 intro j
 by_cases hj : j < z
 · rw [body_at hj, body_at hj]
   have := hs (1 + j) (by omega) (by omega)
   rw [List.getD_eq_getElem?_getD, List.getD_eq_getElem?_getD, List.getElem?_eq_getElem (by omega : 1 + j < d'.rd.length), List.getElem?_eq_getElem (by omega : 1 + j < d.rd.length)] at this
   rw [List.getElem?_eq_getElem (by omega : 1 + j < d'.rd.length), List.getElem?_eq_getElem (by omega : 1 + j < d.rd.length)]
   exact congrArg some this
 · rw [List.getElem?_eq_none (by rw [body_len (by omega)]; omega), List.getElem?_eq_none (by rw [body_len hz]; omega)]
set_option maxRecDepth 100000 in
theorem flatMap_same {α β : Type} {l : List α} {f g : α → List β} (h : ∀ a ∈ l, f a = g a) : l.flatMap f = l.flatMap g := by
 rw [List.flatMap_def, List.flatMap_def, List.map_congr_left h]
section
variable {d : DS} {z N : Nat} {f : Nat → List UInt8}
set_option maxRecDepth 100000 in
theorem pagesW_at {l : List Nat} {p : Nat × List UInt8} (h : p ∈ pagesW z f l) : ∃ n ∈ l, ∃ i, i < 4 ∧ p = (1 + z + 4 * n + i, ((f n).drop (i * 128)).take 128) := by
 simp only [pagesW, List.mem_flatMap, pageW, List.mem_map, List.mem_range] at h
 obtain ⟨n, hn, i, hi, rfl⟩ := h
 exact ⟨n, hn, i, hi, rfl⟩
set_option maxRecDepth 100000 in
theorem flushed_rest (ha : d.alive = true) : d.flushed.rd = d.rd ∧ ∀ j, d.flushed.vs j = [] := by
 unfold DS.flushed
 rw [if_pos ha]
 exact ⟨rfl, fun j => rfl⟩
set_option maxRecDepth 100000 in
theorem laid_rd (h512 : ∀ n, f n ≠ [] → n < N ∧ (f n).length = 512) (hfit : 1 + z + 4 * N ≤ d.rd.length) (ha : (d.puts (pagesW z f (openF f N))).alive = true) :
 (d.puts (pagesW z f (openF f N))).flushed.rd.length = d.rd.length ∧ (∀ j, (d.puts (pagesW z f (openF f N))).flushed.vs j = []) ∧ ((∀ x ∈ d.rd, x.length = 128) → ∀ x ∈ (d.puts (pagesW z f (openF f N))).flushed.rd, x.length = 128) ∧
 (∀ j, j ≤ z → (d.puts (pagesW z f (openF f N))).flushed.rd.getD j [] = d.rd.getD j []) ∧ (∀ n, 1 + z + 4 * n + 4 ≤ d.rd.length → pgAt (d.puts (pagesW z f (openF f N))).flushed z n = if f n ≠ [] then f n else pgAt d z n) := by
 obtain ⟨h1, h2⟩ := flushed_rest ha
 have h3 := puts_alive ha
 refine ⟨by rw [h1, puts_len], h2, fun hall => ?_, fun j hj => ?_, fun n hn => ?_⟩
 · rw [h1, h3]
   refine putsL_all hall fun p hp => ?_
   obtain ⟨n, hn, i, hi, rfl⟩ := pagesW_at hp
   have := (h512 n (openF_mem.1 hn).2).2
   show (((f n).drop (i * 128)).take 128).length = 128
   rw [List.length_take, List.length_drop]
   omega
 · rw [h1, h3]
   refine putsL_other fun p hp e => ?_
   obtain ⟨n, hn, i, hi, rfl⟩ := pagesW_at hp
   simp at e
   omega
 · split
   · rename_i hfn
     have hb := h512 n hfn
     have : pgAt (d.puts (pagesW z f (openF f N))).flushed z n = (List.range 4).flatMap fun i => ((f n).drop (i * 128)).take 128 := by
      unfold pgAt
      refine flatMap_same fun i hi => ?_
      have hi4 := List.mem_range.1 hi
      rw [h1, h3]
      refine putsL_get (fun p hp e => ?_) (.inl ⟨(1 + z + 4 * n + i, ((f n).drop (i * 128)).take 128), ?_, rfl⟩) (by omega)
      · obtain ⟨n', hn', i', hi', rfl⟩ := pagesW_at hp
        have e1 : n' = n := by simp at e; omega
        have e2 : i' = i := by simp at e; omega
        rw [e1, e2]
      · simp only [pagesW, List.mem_flatMap, pageW, List.mem_map, List.mem_range]
        exact ⟨n, openF_mem.2 ⟨hb.1, hfn⟩, i, hi4, rfl⟩
     rw [this, page_parts hb.2]
   · rename_i hfn
     have hfn' : f n = [] := Decidable.byContradiction fun q => hfn q
     unfold pgAt
     refine flatMap_same fun i hi => ?_
     have hi4 := List.mem_range.1 hi
     rw [h1, h3]
     refine putsL_other fun p hp e => ?_
     obtain ⟨n', hn', i', hi', rfl⟩ := pagesW_at hp
     have e1 : n' = n := by simp at e; omega
     exact (openF_mem.1 hn').2 (by rw [e1]; exact hfn')
set_option maxRecDepth 100000 in
theorem RI.puts {c s e : Nat} {q : List (Nat × List Chg)} (h : RI d z c s q e) (h512 : ∀ n, f n ≠ [] → n < N ∧ (f n).length = 512) (hfit : 1 + z + 4 * N ≤ d.rd.length) (ha : (d.puts (pagesW z f (openF f N))).alive = true) : RI (d.puts (pagesW z f (openF f N))).flushed z c s q e := by
 obtain ⟨h1, h2, h3, h4, _⟩ := laid_rd h512 hfit ha
 refine h.head_set h2 h1 (h3 h.all) (body_low h1 (fun j _ hj => h4 j hj) h.len) ?_ (Nat.le_refl _)
 have h5 : (d.puts (pagesW z f (openF f N))).flushed.head = d.head := h4 0 (Nat.zero_le _)
 unfold HeadIs
 rw [h5]
 exact h.hd
end
end Go.Proofs.YtcnlgbjkjlbmbaaGreat


