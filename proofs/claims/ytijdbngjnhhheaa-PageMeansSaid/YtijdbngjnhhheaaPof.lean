/- The document's page: Of. -/
import Derived.Test.YtijdbngjnhhheaaPeq
namespace Go.Proofs.Ytijdbngjnhhheaa
open Go.RowKit

/-- A slot's bytes lie at M or above. -/
def Abv (M : Nat) (u : Value) : Prop := ∀ (ad : Addr) (n c : Nat), u = .slice (some ad) n c → 0 < n → M ≤ ad.block
set_option maxRecDepth 100000 in
theorem set_three {w : World} {g : Nat} {t : TypeId} {a0 a1 a2 v0 v1 v2 : Value} (h : Blk w g t #[a0, a1, a2]) : Blk (w.setCells g 0 [v0, v1, v2]) g t #[v0, v1, v2] := ((h.set_ 0 v0).set_ 1 v1).set_ 2 v2
set_option maxRecDepth 100000 in
theorem run_store_ref {o : Oper} {a : Act} {w : World} (x y : Operand) (ho : o.op = .store 74 x y) {g : Nat} {a0 a1 a2 v0 v1 v2 : Value} (hb : Blk w g 74 #[a0, a1, a2]) (hx : a.eval x = .pointer (some ⟨g, 0, none⟩)) (hy : a.eval y = .agg #[v0, v1, v2])
    (h1 : #[v0, v1, v2].all (·.oneCell') = true) : (execOp a.eval o).run Try.prog w = .ok .skip (w.setCells g 0 [v0, v1, v2]) :=
  run_store_mid 74 x y ho g 0 #[v0, v1, v2] hx hy (hb.there (by simp)) infoRef h1
set_option maxRecDepth 100000 in
theorem alloc_ref (W : World) : ∃ W1, W1 = W.alloc (.cells #[.int .i64 0, .int .i64 0, .slice none 0 0] 74) ∧ Blk W1 W.heap.size 74 #[.int .i64 0, .int .i64 0, .slice none 0 0] ∧ Fr (fun _ => False) W W1 :=
  ⟨_, rfl, Blk.new _ _ _, (Fr.refl _ _).alloc _⟩
set_option maxRecDepth 100000 in
theorem alloc_ref_op {o : Oper} {a : Act} {w : World} (ho : o.op = .alloc 74) : (execOp a.eval o).run Try.prog w = .ok (.value (.pointer (some ⟨w.heap.size, 0, none⟩))) (w.alloc (.cells #[.int .i64 0, .int .i64 0, .slice none 0 0] 74)) := by
  have hr : (Instr.alloc 74 true (.tuple #[])).run Try.prog w = .ok (.pointer (some ⟨w.heap.size, 0, none⟩)) (w.alloc (.cells #[.int .i64 0, .int .i64 0, .slice none 0 0] 74)) := by go_simp
  unfold execOp
  simp only [ho, Sem.run_bind, hr, Result.andThen_ok, Sem.run_pure]
set_option maxRecDepth 100000 in
theorem next_parts {x : PD} (k : x.Ok) : 65536 * numOf (sub x.bytes 8 2) + numOf (sub x.bytes 10 2) = x.next := by
  have h := bytes_next k
  have hl := k.len
  have e : sub x.bytes 8 4 = sub x.bytes 8 2 ++ sub x.bytes 10 2 := by
    have h1 : sub x.bytes 8 2 = sub (sub x.bytes 8 4) 0 2 := by rw [sub_sub (by omega)]
    have h2 : sub x.bytes 10 2 = sub (sub x.bytes 8 4) 2 2 := by rw [sub_sub (by omega)]
    have h3 : (sub x.bytes 8 4).length = 4 := sub_len (by omega)
    rw [h1, h2]
    generalize sub x.bytes 8 4 = l at *
    unfold sub
    rw [List.drop_zero]
    have h4 : (l.drop 2).take 2 = l.drop 2 := List.take_of_length_le (by rw [List.length_drop]; omega)
    rw [h4, List.take_append_drop]
  rw [e, numOf_app, sub_len (by omega)] at h
  omega
set_option maxRecDepth 100000 in
theorem yields_page {w : World} {P : Nat} {L : List UInt8} {S : World → Prop} (hS : ∀ w', S w' → w'.rangeAt P 0 (cellsB L)) : ∀ w', S w' → w'.rangeAt P 0 (cellsB L) := hS
set_option maxRecDepth 100000 in
theorem run_append_op_b {o : Oper} {a : Act} {w : World} (s x : Operand) (hop : o.op = Op.call { callee := Callee.builtin Builtin.append, args := #[s, x], argTypes := #[34, 34] }) {v y v' : Value} {w' : World} (hs : a.eval s = v) (hx : a.eval x = y)
    (hrun : (Builtin.append_ #[34, 34] o.type #[v, y]).run Try.prog w = .ok v' w') : (execOp a.eval o).run Try.prog w = .ok (.value v') w' := by
  simp [execOp, hop, resolve, invoke, builtin, hs, hx, hrun, Result.andThen]
set_option maxRecDepth 100000 in
theorem results_ref2 {fn : Func} {p q : Tmp} (h : fn.results = #[.cell p 74, .tmp q]) (tmps : Array Value) (w : World) (b : Nat) (v0 v1 v2 v : Value) (hp : tmps.getD p undef = .pointer (some ⟨b, 0, none⟩)) (hq : tmps.getD q undef = v)
    (hb : Blk w b 74 #[v0, v1, v2]) : (results fn tmps).run Try.prog w = .ok (.tuple #[.agg #[v0, v1, v2], v]) w := by
  have e := run_loadVar_row (P := Try.prog) w b 74 74 #[v0, v1, v2] (0, 0) _ hb Try.underlying74 rfl infoRef
  have hp' : tmps[p]?.getD undef = .pointer (some ⟨b, 0, none⟩) := by simpa using hp
  have hq' : tmps[q]?.getD undef = v := by simpa using hq
  simp [results, h, hp', hq', asAddr, e]
set_option maxRecDepth 100000 in
theorem own_ge {w : World} {base e size n : Nat} {v : Value} {us : List Value} (h : w.ownsRow base e size v n us) {b : Nat} (hb : v.ownBlock = some b) : base ≤ b ∧ b < w.heap.size := by
  rcases h.2 with ⟨rfl, _⟩ | ⟨g, cap, cur, rfl, hbase, hg, _⟩
  · cases hb
  · simp only [Value.ownBlock, Option.some.injEq] at hb
    subst hb
    exact ⟨hbase, Blk.lt hg⟩
section
variable {w : World}
set_option maxRecDepth 100000 in
set_option maxHeartbeats 4000000 in
theorem Of_any {x : PD} (k : x.Ok) : Calls Try.prog 42 #[av x.bytes] w fun e w' => ∃ A n c, e = .returned (.tuple #[.agg #[.int .i64 x.kind, .int .i64 x.next, .slice A n c], .bool true]) ∧ n = x.s.length ∧ n ≤ c ∧ RecsAt w' A x.s ∧ Fr (fun _ => False) w w' := by
  obtain ⟨L, hL⟩ : ∃ L, L = x.bytes := ⟨_, rfl⟩
  have hl : L.length = 512 := by rw [hL]; exact k.len
  obtain ⟨n8, h8⟩ : ∃ n, n = numOf (sub L 8 2) := ⟨_, rfl⟩
  obtain ⟨n10, h10⟩ : ∃ n, n = numOf (sub L 10 2) := ⟨_, rfl⟩
  have hnx : 65536 * n8 + n10 = x.next := by rw [h8, h10, hL]; exact next_parts k
  have hm : numOf (sub L 2 2) = x.s.length := by rw [hL]; exact bytes_many k
  have hsp : ∀ i, i < x.s.length → numOf (sub L (12 + 4 * i) 2) = (spanOf x.s i).1 ∧ numOf (sub L (12 + 4 * i + 2) 2) = (spanOf x.s i).2 := fun i hi => by rw [hL]; exact bytes_span k hi
  have hrc : ∀ i b, x.s[i]? = some (some b) → sub L (512 - tot (x.s.take (i + 1))) b.length = b := fun i b hi => by rw [hL]; exact bytes_rec k hi
  have hk0 : L[0]? = some (UInt8.ofNat x.kind) := by
    obtain ⟨t, ht⟩ := bytes_kind x
    rw [hL, ht]; rfl
  have HX := Lib.hid (And.intro k hL)
  rw [← hL]
  obtain ⟨kd, nx, s⟩ := x
  simp only at *
  have hk4 := k.k
  have hn9 := k.n
  have hm9 := k.many
  simp only at hk4 hn9 hm9
  have hkd : ((UInt8.ofNat kd).toNat : Int) = (kd : Int) := by rw [UInt8.toNat_ofNat']; omega
  have G : ∀ (W : World) (p : Nat) (z : Int), z = (p : Int) → p + 2 ≤ 512 → Calls Try.prog 69 #[av L, .int .i64 z] W fun e w' => e = .returned (.int .i64 (numOf (sub L p 2))) ∧ Fr (fun _ => False) W w' := fun W p z hz hp => by
    subst hz; exact get_page hl hp
  have HG8 : Hid (∀ W, Calls Try.prog 69 #[av L, .int .i64 8] W fun e w' => e = .returned (.int .i64 n8) ∧ Fr (fun _ => False) W w') := Lib.hid fun W => by rw [h8]; exact G W 8 8 rfl (by omega)
  have HG10 : Hid (∀ W, Calls Try.prog 69 #[av L, .int .i64 10] W fun e w' => e = .returned (.int .i64 n10) ∧ Fr (fun _ => False) W w') := Lib.hid fun W => by rw [h10]; exact G W 10 10 rfl (by omega)
  have HG := Lib.hid G
  obtain ⟨X, hX⟩ : ∃ X, X = (w.alloc (.cells (cellsB L).toArray 26)).alloc (.cells #[.int .i64 0, .int .i64 0, .slice none 0 0] 74) := ⟨_, rfl⟩
  have hXs : X.heap.size = w.heap.size + 2 := by rw [hX]; show ((w.heap.push _).push _).size = _; simp
  have fX : Fr (fun _ => False) w X := by rw [hX]; exact ((Fr.refl _ _).alloc _).alloc _
  have bP : Blk X w.heap.size 26 (cellsB L).toArray := by
    rw [hX]; exact (Blk.new w 26 (cellsB L).toArray).keep ((Fr.refl (fun _ => False) _).alloc _) (fun q => q)
  have b2 : Blk X (w.heap.size + 1) 74 #[.int .i64 0, .int .i64 0, .slice none 0 0] := by
    have h := Blk.new (w.alloc (.cells (cellsB L).toArray 26)) 74 #[.int .i64 0, .int .i64 0, .slice none 0 0]
    have e : (w.alloc (.cells (cellsB L).toArray 26)).heap.size = w.heap.size + 1 := by show (w.heap.push _).size = _; simp
    rw [e] at h
    rw [hX]; exact h
  have HC0 : Hid (∀ W, Fr (fun _ => False) X W → W.cell? ⟨w.heap.size, 0, none⟩ = some (.int .u8 (kd : Int)) ∧ W.rangeAt w.heap.size 0 (cellsB L)) := Lib.hid fun W f => by
    have hb := bP.keep f (fun q => q)
    refine ⟨?_, page_range hb hl⟩
    rw [hb.cell, ← hkd]; simp [cellsB, hk0]
  have HB := Lib.hid (And.intro bP (And.intro b2 (And.intro fX hXs)))
  have HL := Lib.hid (And.intro hl (And.intro hm (And.intro hsp hrc)))
  have HXX := Lib.hid hX
  have hup := Try.underlying26
  have hinfo : (Try.prog.info? 26).map (·.size) = some (cellsB L).length := by rw [infoPage, cellsB_len, hl]
  have V1 : IntKind.i64.wrap (kd : Int) = (kd : Int) := wrap64 (by omega) (by omega)
  have V2 : IntKind.i64.wrap (65536 * (n8 : Int)) = 65536 * (n8 : Int) := wrap64 (by omega) (by omega)
  have V3 : IntKind.i64.wrap (65536 * (n8 : Int) + (n10 : Int)) = (nx : Int) := by
    have : 65536 * (n8 : Int) + (n10 : Int) = (nx : Int) := by omega
    rw [this]; exact wrap64 (by omega) (by omega)
  clear k hL hl h8 h10 hm hsp hrc hk0 hkd G hX fX bP b2 hXs hnx
  go_enter Try.func42, Try.ntmps42
  go_upto_region 1 with (refine wpList_put rfl 26 _ rfl (cellsB L).toArray rfl ?_)
  (simp only [← HXX.out])
  go_cut [4] (fun s4 wx => ∃ g : Nat, s4 = .pointer (some ⟨g, 0, none⟩) ∧ Hid (X.heap.size ≤ g) ∧ Hid (Blk wx g 74 #[.int .i64 kd, .int .i64 nx, .slice none 0 0]) ∧ Hid (Fr (fun _ => False) X wx))
  case first =>
    refine wp_region_held_drew (S := fun w' => Fr (fun _ => False) X w') (by kernel_rfl) ((Fr.refl _ _).drew) (fun hS0 => ?_)
    refine anyH_take 0 11 (.pointer (some ⟨w.heap.size, 0, none⟩)) rfl rfl (by kernel_rfl) (by kernel_rfl) (by kernel_rfl) (fun _ _ _ h => h) (.inl ⟨by rfl, fun w'' hS => by go_simp⟩) hS0 ?_
    (simp only [List.setIfInBounds_toArray, List.set_cons_zero, List.set_cons_succ])
    refine anyH_take 1 12 (.int .u8 (kd : Int)) rfl rfl (by kernel_rfl) (by kernel_rfl) (by kernel_rfl) (fun _ _ _ h => h) (.inl ⟨by rfl, fun w'' hS => by have q0 := (HC0.out w'' hS).1; go_simp⟩) hS0 ?_
    (simp only [List.setIfInBounds_toArray, List.set_cons_zero, List.set_cons_succ])
    refine anyH_take 2 13 (.int .i64 (kd : Int)) rfl rfl (by kernel_rfl) (by kernel_rfl) (by kernel_rfl) (fun _ _ _ h => h) (.inl ⟨by rfl, fun w'' hS => by go_simp⟩) hS0 ?_
    (simp only [List.setIfInBounds_toArray, List.set_cons_zero, List.set_cons_succ])
    refine anyH_take 3 14 (av L) rfl rfl (by kernel_rfl) (by kernel_rfl) (by kernel_rfl) (fun _ _ _ h => h) (yieldsIf_load_mid (by rfl) _ _ rfl _ _ rfl _ _ (fun w' f => (HC0.out w' f).2) hup rfl hinfo) hS0 ?_
    (simp only [List.setIfInBounds_toArray, List.set_cons_zero, List.set_cons_succ])
    refine anyH_take 6 17 (av L) rfl rfl (by kernel_rfl) (by kernel_rfl) (by kernel_rfl) (fun _ _ _ h => h) (yieldsIf_load_mid (by rfl) _ _ rfl _ _ rfl _ _ (fun w' f => (HC0.out w' f).2) hup rfl hinfo) hS0 ?_
    (simp only [List.setIfInBounds_toArray, List.set_cons_zero, List.set_cons_succ])
    refine anyH_alt 4 10 (by kernel_rfl) ?_ ?_
    · refine wpOp_call 15 rfl rfl (by rfl) (by go_simp) ((HG8.out _).mono ?_)
      rintro e wl ⟨rfl, fwl⟩
      have swl : Fr (fun _ => False) X wl := hS0.trans fwl (fun _ _ q => q)
      refine ⟨_, rfl, swl, ?_⟩
      (simp only [List.setIfInBounds_toArray, List.set_cons_zero, List.set_cons_succ])
      refine anyH_take 5 16 (.int .i64 (65536 * (n8 : Int))) rfl rfl (by kernel_rfl) (by kernel_rfl) (by kernel_rfl) (fun _ _ _ h => h) (.inl ⟨by rfl, fun w'' hS => by go_simp⟩) swl ?_
      (simp only [List.setIfInBounds_toArray, List.set_cons_zero, List.set_cons_succ])
      refine anyH_alt 7 10 (by kernel_rfl) ?_ ?_
      · refine wpOp_call 18 rfl rfl (by rfl) (by go_simp) ((HG10.out _).mono ?_)
        rintro e wm ⟨rfl, fwm⟩
        have swm : Fr (fun _ => False) X wm := swl.trans fwm (fun _ _ q => q)
        refine ⟨_, rfl, swm, ?_⟩
        (simp only [List.setIfInBounds_toArray, List.set_cons_zero, List.set_cons_succ])
        refine anyH_take 8 19 (.int .i64 (nx : Int)) rfl rfl (by kernel_rfl) (by kernel_rfl) (by kernel_rfl) (fun _ _ _ h => h) (.inl ⟨by rfl, fun w'' hS => by go_simp⟩) swm ?_
        (simp only [List.setIfInBounds_toArray, List.set_cons_zero, List.set_cons_succ])
        refine anyH_take 9 20 (.agg #[.int .i64 (kd : Int), .int .i64 (nx : Int), .slice none 0 0]) rfl rfl (by kernel_rfl) (by kernel_rfl) (by kernel_rfl) (fun _ _ _ h => h) (.inl ⟨by rfl, fun w'' hS => by go_simp⟩) swm ?_
        (simp only [List.setIfInBounds_toArray, List.set_cons_zero, List.set_cons_succ])
        obtain ⟨W3, ha3, b3, f3⟩ := alloc_ref wm
        have g3 : Fr (fun _ => False) X W3 := swm.trans f3 (fun _ _ q => q)
        have hge : X.heap.size ≤ wm.heap.size := swm.size
        refine anyH_value 10 4 _ W3 (by kernel_rfl) rfl rfl (by rfl) (by rw [ha3]; exact alloc_ref_op rfl) g3 ?_
        (simp only [List.setIfInBounds_toArray, List.set_cons_zero, List.set_cons_succ])
        clear ha3
        refine anyH_skip 11 _ (by kernel_rfl) rfl rfl (by rfl) (run_store_ref _ _ rfl b3 rfl rfl (by simp [Value.oneCell'])) (Fr.setCells (.inr hge) g3) ?_
        refine wpAnyH_done (by kernel_rfl) ?_ _
        have HE := Lib.hid (set_three (v0 := .int .i64 (kd : Int)) (v1 := .int .i64 (nx : Int)) (v2 := .slice none 0 0) b3)
        have HE2 := Lib.hid (Fr.setCells (F := fun _ => False) (b := wm.heap.size) (vs := [.int .i64 (kd : Int), .int .i64 (nx : Int), .slice none 0 0]) (o := 0) (.inr hge) g3)
        have HGE := Lib.hid hge
        go_wp2_with fail
        go_meet
        exact ⟨wm.heap.size, rfl, HGE, HE, HE2⟩
      · obtain ⟨W3, ha3, b3, f3⟩ := alloc_ref wl
        have g3 : Fr (fun _ => False) X W3 := swl.trans f3 (fun _ _ q => q)
        have hge : X.heap.size ≤ wl.heap.size := swl.size
        refine wpOp_value 4 _ rfl rfl (by rfl) (by rw [ha3]; exact alloc_ref_op rfl) ⟨g3, ?_⟩
        (simp only [List.setIfInBounds_toArray, List.set_cons_zero, List.set_cons_succ])
        clear ha3
        refine anyH_enter 7 18 (by kernel_rfl) rfl rfl (by rfl) (by go_simp) ((HG10.out _).mono ?_)
        rintro e wm ⟨rfl, fwm⟩
        have swm : Fr (fun _ => False) X wm := g3.trans fwm (fun _ _ q => q)
        refine ⟨_, rfl, swm, ?_⟩
        (simp only [List.setIfInBounds_toArray, List.set_cons_zero, List.set_cons_succ])
        refine anyH_take 8 19 (.int .i64 (nx : Int)) rfl rfl (by kernel_rfl) (by kernel_rfl) (by kernel_rfl) (fun _ _ _ h => h) (.inl ⟨by rfl, fun w'' hS => by go_simp⟩) swm ?_
        (simp only [List.setIfInBounds_toArray, List.set_cons_zero, List.set_cons_succ])
        refine anyH_take 9 20 (.agg #[.int .i64 (kd : Int), .int .i64 (nx : Int), .slice none 0 0]) rfl rfl (by kernel_rfl) (by kernel_rfl) (by kernel_rfl) (fun _ _ _ h => h) (.inl ⟨by rfl, fun w'' hS => by go_simp⟩) swm ?_
        (simp only [List.setIfInBounds_toArray, List.set_cons_zero, List.set_cons_succ])
        have b4 := b3.keep fwm (fun q => q)
        refine anyH_skip 11 _ (by kernel_rfl) rfl rfl (by rfl) (run_store_ref _ _ rfl b4 rfl rfl (by simp [Value.oneCell'])) (Fr.setCells (.inr hge) swm) ?_
        refine wpAnyH_done (by kernel_rfl) ?_ _
        have HE := Lib.hid (set_three (v0 := .int .i64 (kd : Int)) (v1 := .int .i64 (nx : Int)) (v2 := .slice none 0 0) b4)
        have HE2 := Lib.hid (Fr.setCells (F := fun _ => False) (b := wl.heap.size) (vs := [.int .i64 (kd : Int), .int .i64 (nx : Int), .slice none 0 0]) (o := 0) (.inr hge) swm)
        have HGE := Lib.hid hge
        go_wp2_with fail
        go_meet
        exact ⟨wl.heap.size, rfl, HGE, HE, HE2⟩
    · obtain ⟨W3, ha3, b3, f3⟩ := alloc_ref X.drew
      have g3 : Fr (fun _ => False) X W3 := hS0.trans f3 (fun _ _ q => q)
      have hge : X.heap.size ≤ X.drew.heap.size := hS0.size
      refine wpOp_value 4 _ rfl rfl (by rfl) (by rw [ha3]; exact alloc_ref_op rfl) ⟨g3, ?_⟩
      (simp only [List.setIfInBounds_toArray, List.set_cons_zero, List.set_cons_succ])
      clear ha3
      refine anyH_enter 4 15 (by kernel_rfl) rfl rfl (by rfl) (by go_simp) ((HG8.out _).mono ?_)
      rintro e wl ⟨rfl, fwl⟩
      have swl : Fr (fun _ => False) X wl := g3.trans fwl (fun _ _ q => q)
      refine ⟨_, rfl, swl, ?_⟩
      (simp only [List.setIfInBounds_toArray, List.set_cons_zero, List.set_cons_succ])
      refine anyH_take 5 16 (.int .i64 (65536 * (n8 : Int))) rfl rfl (by kernel_rfl) (by kernel_rfl) (by kernel_rfl) (fun _ _ _ h => h) (.inl ⟨by rfl, fun w'' hS => by go_simp⟩) swl ?_
      (simp only [List.setIfInBounds_toArray, List.set_cons_zero, List.set_cons_succ])
      refine anyH_enter 7 18 (by kernel_rfl) rfl rfl (by rfl) (by go_simp) ((HG10.out _).mono ?_)
      rintro e wm ⟨rfl, fwm⟩
      have swm : Fr (fun _ => False) X wm := swl.trans fwm (fun _ _ q => q)
      refine ⟨_, rfl, swm, ?_⟩
      (simp only [List.setIfInBounds_toArray, List.set_cons_zero, List.set_cons_succ])
      refine anyH_take 8 19 (.int .i64 (nx : Int)) rfl rfl (by kernel_rfl) (by kernel_rfl) (by kernel_rfl) (fun _ _ _ h => h) (.inl ⟨by rfl, fun w'' hS => by go_simp⟩) swm ?_
      (simp only [List.setIfInBounds_toArray, List.set_cons_zero, List.set_cons_succ])
      refine anyH_take 9 20 (.agg #[.int .i64 (kd : Int), .int .i64 (nx : Int), .slice none 0 0]) rfl rfl (by kernel_rfl) (by kernel_rfl) (by kernel_rfl) (fun _ _ _ h => h) (.inl ⟨by rfl, fun w'' hS => by go_simp⟩) swm ?_
      (simp only [List.setIfInBounds_toArray, List.set_cons_zero, List.set_cons_succ])
      have b4 := (b3.keep fwl (fun q => q)).keep fwm (fun q => q)
      refine anyH_skip 11 _ (by kernel_rfl) rfl rfl (by rfl) (run_store_ref _ _ rfl b4 rfl rfl (by simp [Value.oneCell'])) (Fr.setCells (.inr hge) swm) ?_
      refine wpAnyH_done (by kernel_rfl) ?_ _
      have HE := Lib.hid (set_three (v0 := .int .i64 (kd : Int)) (v1 := .int .i64 (nx : Int)) (v2 := .slice none 0 0) b4)
      have HE2 := Lib.hid (Fr.setCells (F := fun _ => False) (b := X.drew.heap.size) (vs := [.int .i64 (kd : Int), .int .i64 (nx : Int), .slice none 0 0]) (o := 0) (.inr hge) swm)
      have HGE := Lib.hid hge
      go_wp2_with fail
      go_meet
      exact ⟨X.drew.heap.size, rfl, HGE, HE, HE2⟩
  case rest =>
    obtain ⟨g, rfl, HGE, HBG, HFc⟩ := hcut
    obtain ⟨m, hm⟩ : ∃ m, m = s.length := ⟨_, rfl⟩
    have hmm := HL.out.2.1
    rw [← hm] at hmm hm9
    have HM := Lib.hid hm
    have hgs := HGE.out
    have HQ : Hid (∀ W, Fr (fun q => q = g) wc W → W.rangeAt w.heap.size 0 (cellsB L) ∧ Fr (fun _ => False) w W ∧ Blk W (w.heap.size + 1) 74 #[.int .i64 0, .int .i64 0, .slice none 0 0] ∧ Blk W w.heap.size 26 (cellsB L).toArray) := Lib.hid fun W f => by
      have hXs := HB.out.2.2.2
      have hb := (HB.out.1.keep HFc.out (fun q => q)).keep f (by omega)
      exact ⟨page_range hb HL.out.1, (HB.out.2.2.1.trans HFc.out (fun _ _ q => q)).trans f (fun q hq e => by omega), (HB.out.2.1.keep HFc.out (fun q => q)).keep f (by omega), hb⟩
    have q0 := Lib.hid (HQ.out wc (Fr.refl _ _)).1
    have CM := HG.out wc 2 2 rfl (by omega)
    rw [hmm] at CM
    clear hm hmm V2 V3 V1
    go_wp2_with (refine wpList_load_want (by rfl) 26 _ rfl w.heap.size 0 rfl (cellsB L) _ q0.out hup rfl hinfo ?_)
    refine CM.mono ?_
    rintro e w1 ⟨rfl, f1⟩
    have hgt : ¬ (12 + 4 * (m : Int) > 512) := by have := HX.out.1.sz; have := HM.out; simp only at *; omega
    have hgt2 : ¬ (512 < 12 + 4 * (m : Int)) := by omega
    have HF1 := Lib.hid f1
    have hg1 : g < w1.heap.size := (HBG.out.keep f1 (fun q => q)).lt
    have HB1 : Hid (∃ v, Blk w1 g 74 #[.int .i64 kd, .int .i64 nx, v] ∧ SlV w1 (Abv w1.heap.size) w1.heap.size v (s.take 0)) := Lib.hid ⟨_, HBG.out.keep f1 (fun q => q), SlV.nil _ _ _⟩
    clear q0 CM f1 HBG
    go_wp2_with fail
    go_loopw [6] (fun v wr => ∃ j : Nat, v = .int .i64 j ∧ j ≤ m ∧ Hid (∃ v, Blk wr g 74 #[.int .i64 kd, .int .i64 nx, v] ∧ SlV wr (Abv w1.heap.size) w1.heap.size v (s.take j)) ∧ Hid (Fr (fun q => q = g) w1 wr)) (fun v _ => m - (intOf v).toNat)
    case atStart => exact ⟨0, rfl, Nat.zero_le _, HB1, Lib.hid (Fr.refl _ _)⟩
    case round =>
      obtain ⟨j, rfl, hj, HV, HF⟩ := hrel
      clear HB1 hgt hgt2
      have HW := Lib.hid (HQ.out wr ((HF1.out.mono (fun _ _ q => q.elim)).trans HF.out (fun _ _ q => q)))
      by_cases hlt : j < m
      · obtain ⟨v, hBv, hSv⟩ := HV.out
        obtain ⟨o, ho⟩ : ∃ o, s[j]? = some o := ⟨_, List.getElem?_eq_getElem (by have := HM.out; omega)⟩
        obtain ⟨fr, hfr⟩ : ∃ n, n = (spanOf s j).1 := ⟨_, rfl⟩
        obtain ⟨n, hn⟩ : ∃ n, n = (spanOf s j).2 := ⟨_, rfl⟩
        obtain ⟨bs, hbs⟩ : ∃ bs, bs = o.getD [] := ⟨_, rfl⟩
        have hsz := HX.out.1.sz
        simp only at hsz
        have ht1 := tot_take_le s (j + 1)
        have ht2 := tot_snoc ho
        have hdat : n = bs.length ∧ fr + n ≤ 512 ∧ decide ((fr : Int) + (n : Int) > 0) = isB s j ∧ (∀ i, i < n → bs[i]? = L[fr + i]?) := by
          cases o with
          | none =>
            have e1 : spanOf s j = (0, 0) := by simp [spanOf, ho]
            rw [e1] at hfr hn
            have e2 : isB s j = false := by simp [isB, ho]
            subst hfr hn hbs
            exact ⟨rfl, by omega, by rw [e2]; rfl, fun i hi => by omega⟩
          | some b =>
            have e1 : spanOf s j = (512 - tot (s.take (j + 1)), b.length) := by simp [spanOf, ho]
            rw [e1] at hfr hn
            have e2 : isB s j = true := isB_iff.2 ⟨b, ho⟩
            simp only [rl, Option.getD_some] at ht2 hbs
            simp only at hfr hn
            subst hfr hn hbs
            refine ⟨rfl, by omega, by rw [e2]; apply decide_eq_true; omega, fun i hi => ?_⟩
            have e3 := HL.out.2.2.2 j bs ho
            have e4 : bs[i]? = (sub L (512 - tot (s.take (j + 1))) bs.length)[i]? := by rw [e3]
            rw [e4]
            unfold sub
            rw [List.getElem?_take, if_pos hi, List.getElem?_drop]
        obtain ⟨hnl, hfn, hdec, hbyte⟩ := hdat
        have G1 := fun W => HG.out W (12 + 4 * j) (12 + 4 * (j : Int)) (by omega) (by omega)
        have G2 := fun W => HG.out W (12 + 4 * j + 2) (14 + 4 * (j : Int)) (by omega) (by omega)
        rw [(HL.out.2.2.1 j (by have := HM.out; omega)).1, ← hfr] at G1
        rw [(HL.out.2.2.1 j (by have := HM.out; omega)).2, ← hn] at G2
        have HG1 := Lib.hid G1
        have HG2 := Lib.hid G2
        have HBv := Lib.hid (And.intro hBv (And.intro hSv ho))
        have HD := Lib.hid (And.intro hnl (And.intro hbyte hbs))
        have HC1 : Hid (∀ W, Fr (fun _ => False) wr W → W.rangeAt w.heap.size 0 (cellsB L)) := Lib.hid fun W f => page_range (HW.out.2.2.2.keep f (fun q => q)) HL.out.1
        have hj125 : j ≤ 125 := by omega
        have hi1 : (j : Int) < (m : Int) := by omega
        have U1 : IntKind.i64.wrap (4 * (j : Int)) = 4 * (j : Int) := wrap64 (by omega) (by omega)
        have U2 : IntKind.i64.wrap (12 + 4 * (j : Int)) = 12 + 4 * (j : Int) := wrap64 (by omega) (by omega)
        have U3 : IntKind.i64.wrap (14 + 4 * (j : Int)) = 14 + 4 * (j : Int) := wrap64 (by omega) (by omega)
        clear hBv hSv hfr hn hbs hsz ht1 ht2 hnl hbyte G1 G2 ho
        go_upto_region 8 with (fail)
        refine wp_region_held_drew (S := fun w' => Fr (fun _ => False) wr w') (by kernel_rfl) ((Fr.refl _ _).drew) (fun hS0 => ?_)
        refine anyH_take 0 33 (av L) rfl rfl (by kernel_rfl) (by kernel_rfl) (by kernel_rfl) (fun _ _ _ h => h) (yieldsIf_load_mid (by rfl) _ _ rfl _ _ rfl _ _ (fun w' f => HC1.out w' f) hup rfl hinfo) hS0 ?_
        (simp only [List.setIfInBounds_toArray, List.set_cons_zero, List.set_cons_succ])
        refine anyH_take 1 34 (.int .i64 (j : Int)) rfl rfl (by kernel_rfl) (by kernel_rfl) (by kernel_rfl) (fun _ _ _ h => h) (.inl ⟨by rfl, fun w'' hS => by go_simp⟩) hS0 ?_
        (simp only [List.setIfInBounds_toArray, List.set_cons_zero, List.set_cons_succ])
        refine anyH_take 2 35 (.int .i64 (4 * (j : Int))) rfl rfl (by kernel_rfl) (by kernel_rfl) (by kernel_rfl) (fun _ _ _ h => h) (.inl ⟨by rfl, fun w'' hS => by go_simp⟩) hS0 ?_
        (simp only [List.setIfInBounds_toArray, List.set_cons_zero, List.set_cons_succ])
        refine anyH_take 3 36 (.int .i64 (12 + 4 * (j : Int))) rfl rfl (by kernel_rfl) (by kernel_rfl) (by kernel_rfl) (fun _ _ _ h => h) (.inl ⟨by rfl, fun w'' hS => by go_simp⟩) hS0 ?_
        (simp only [List.setIfInBounds_toArray, List.set_cons_zero, List.set_cons_succ])
        refine anyH_take 5 38 (av L) rfl rfl (by kernel_rfl) (by kernel_rfl) (by kernel_rfl) (fun _ _ _ h => h) (yieldsIf_load_mid (by rfl) _ _ rfl _ _ rfl _ _ (fun w' f => HC1.out w' f) hup rfl hinfo) hS0 ?_
        (simp only [List.setIfInBounds_toArray, List.set_cons_zero, List.set_cons_succ])
        refine anyH_take 6 39 (.int .i64 (j : Int)) rfl rfl (by kernel_rfl) (by kernel_rfl) (by kernel_rfl) (fun _ _ _ h => h) (.inl ⟨by rfl, fun w'' hS => by go_simp⟩) hS0 ?_
        (simp only [List.setIfInBounds_toArray, List.set_cons_zero, List.set_cons_succ])
        refine anyH_take 7 40 (.int .i64 (4 * (j : Int))) rfl rfl (by kernel_rfl) (by kernel_rfl) (by kernel_rfl) (fun _ _ _ h => h) (.inl ⟨by rfl, fun w'' hS => by go_simp⟩) hS0 ?_
        (simp only [List.setIfInBounds_toArray, List.set_cons_zero, List.set_cons_succ])
        refine anyH_take 8 41 (.int .i64 (14 + 4 * (j : Int))) rfl rfl (by kernel_rfl) (by kernel_rfl) (by kernel_rfl) (fun _ _ _ h => h) (.inl ⟨by rfl, fun w'' hS => by go_simp⟩) hS0 ?_
        (simp only [List.setIfInBounds_toArray, List.set_cons_zero, List.set_cons_succ])
        refine anyH_one 4 37 (.int .i64 (fr : Int)) (by kernel_rfl) (tame_call 37 rfl rfl (by rfl) (fun w'' hS => by go_simp) (fun w'' hS => ((HG1.out w'').mono fun e w3 he => ⟨he.1, hS.trans he.2 (fun _ _ q => q)⟩))) hS0 (fun w5 hS0 => ?_)
        (simp only [List.setIfInBounds_toArray, List.set_cons_zero, List.set_cons_succ])
        refine anyH_one 9 42 (.int .i64 (n : Int)) (by kernel_rfl) (tame_call 42 rfl rfl (by rfl) (fun w'' hS => by go_simp) (fun w'' hS => ((HG2.out w'').mono fun e w3 he => ⟨he.1, hS.trans he.2 (fun _ _ q => q)⟩))) hS0 (fun w6 hS0 => ?_)
        (simp only [List.setIfInBounds_toArray, List.set_cons_zero, List.set_cons_succ])
        refine anyH_take 10 7 (.int .i64 (fr : Int)) rfl rfl (by kernel_rfl) (by kernel_rfl) (by kernel_rfl) (fun _ _ _ h => h) (.inl ⟨by rfl, fun w'' hS => by go_simp⟩) hS0 ?_
        (simp only [List.setIfInBounds_toArray, List.set_cons_zero, List.set_cons_succ])
        refine anyH_take 11 8 (.int .i64 (n : Int)) rfl rfl (by kernel_rfl) (by kernel_rfl) (by kernel_rfl) (fun _ _ _ h => h) (.inl ⟨by rfl, fun w'' hS => by go_simp⟩) hS0 ?_
        (simp only [List.setIfInBounds_toArray, List.set_cons_zero, List.set_cons_succ])
        refine wpAnyH_done (by kernel_rfl) ?_ _
        clear U1 U2 U3 HG1 HG2
        obtain ⟨bj, hbj⟩ : ∃ b, b = isB s j := ⟨_, rfl⟩
        rw [← hbj] at hdec
        have hdec2 : decide ((0 : Int) < (fr : Int) + (n : Int)) = bj := hdec
        have h9a : ¬ ((fr : Int) + (n : Int) > 512) := by omega
        have h9b : ¬ ((512 : Int) < (fr : Int) + (n : Int)) := by omega
        have h9c : (fr : Int) + (n : Int) ≤ 512 := by omega
        have HF6 := Lib.hid (And.intro hS0 hbj)
        clear hS0 hbj
        go_upto_region 12 with (fail)
        obtain ⟨g9, hg9⟩ : ∃ g, g = w6.heap.size := ⟨_, rfl⟩
        obtain ⟨w7, hw7⟩ : ∃ W, W = w6.alloc (.cells #[.bool bj, .slice none 0 0] 99) := ⟨_, rfl⟩
        have hb7 : Blk w7 g9 99 #[.bool bj, .slice none 0 0] := by rw [hw7, hg9]; exact Blk.new _ _ _
        have hf7 : Fr (fun _ => False) wr w7 := by rw [hw7]; exact HF6.out.1.alloc _
        have hs7 : w7.heap.size = g9 + 1 := by rw [hw7, hg9]; show (w6.heap.push _).size = _; simp
        have hgo : wr.heap.size ≤ g9 := by rw [hg9]; exact HF6.out.1.size
        have hg1o : g < wr.heap.size := HBv.out.1.lt
        have HK := Lib.hid (And.intro hf7 (And.intro hs7 (And.intro hgo (And.intro hg1o HF6.out.2))))
        rw [← hw7, ← hg9]
        have HB7 : Hid (Blk w7 g9 99 #[.bool bj, .slice none 0 0]) := Lib.hid hb7
        clear hb7 hf7 hs7 hgo hg1o hw7 hg9 HF6 hdec hdec2 h9a h9b h9c HC1
        go_wp2_with fail
        generalize wr = wo at *
        go_loopw [10] (fun v wr => ∃ (q : Nat) (vb : Value), v = .int .i64 q ∧ q ≤ n ∧ Hid (Blk wr g9 99 #[.bool bj, vb] ∧ wr.ownsRow w7.heap.size 5 1 vb q (cellsB (bs.take q)) ∧ (q = 0 → vb = .slice none 0 0)) ∧ Hid (Fr (fun b => b = g9) w7 wr)) (fun v _ => n - (intOf v).toNat)
        case atStart => exact ⟨0, _, rfl, Nat.zero_le _, Lib.hid ⟨HB7.out, World.ownsRow_nil _ _ _ _, fun _ => rfl⟩, Lib.hid (Fr.refl _ _)⟩
        case round =>
          obtain ⟨q, vb, rfl, hq, HVB, HFk⟩ := hrel
          clear HB7
          have hP9 : w.heap.size ≠ g9 := by have := HW.out.2.2.2.lt; have := HK.out.2.2.1; omega
          have hPb : Blk wr w.heap.size 26 (cellsB L).toArray := (HW.out.2.2.2.keep HK.out.1 (fun q => q)).keep HFk.out hP9
          by_cases hkn : q < n
          · obtain ⟨y, hy⟩ : ∃ y, bs[q]? = some y := ⟨_, List.getElem?_eq_getElem (by have := HD.out.1; omega)⟩
            have hyL : L[fr + q]? = some y := by rw [← HD.out.2.1 q hkn]; exact hy
            have hvge := fun b e => own_ge HVB.out.2.1 (b := b) e
            have HCB : Hid (∀ W, Fr (fun b => b = g9 ∨ vb.ownBlock = some b) wr W → W.cell? ⟨w.heap.size, fr + q, none⟩ = some (.int .u8 (y.toNat : Int))) := Lib.hid fun W f => by
              rw [(hPb.keep f (fun e => by
                rcases e with e | e
                · exact hP9 e
                · have := (hvge _ e).1; have := HW.out.2.2.2.lt; have := HK.out.2.2.1; have := HK.out.2.1; omega)).cell]
              simp [cellsB, hyL]
            obtain ⟨A2, n2, c2, hvb⟩ := own_form HVB.out.2.1
            have HVV := Lib.hid (And.intro hvb hvge)
            have hlq : (bs.take q).length = q := by rw [List.length_take]; have := HD.out.1; omega
            obtain ⟨W1, hW1⟩ : ∃ W, W = wr.drew.alloc (.cells #[.int .u8 (y.toNat : Int)] 5) := ⟨_, rfl⟩
            have fW1 : Fr (fun b => b = g9 ∨ vb.ownBlock = some b) wr W1 := by rw [hW1]; exact (Fr.refl _ _).drew.alloc _
            have bW1 : Blk W1 wr.heap.size 5 #[.int .u8 (y.toNat : Int)] := by rw [hW1]; exact Blk.new wr.drew _ _
            have rW1 : Rd W1 (some ⟨wr.heap.size, 0, none⟩) 1 [y] := by
              have h := blk_rd (o := 0) (n := 1) (l := [y]) bW1 (by simp)
              exact h
            have oW1 : W1.ownsRow w7.heap.size 5 1 vb (bs.take q).length (cellsB (bs.take q)) := by
              rw [hlq]
              have f0 : Fr (fun _ => False) wr W1 := by rw [hW1]; exact (Fr.refl _ _).drew.alloc _
              exact own_keep HVB.out.2.1 f0 (fun _ _ q => q)
            obtain ⟨i0, hi, hz0, hz1, hz2⟩ := info_parts infoU8p
            obtain ⟨v', w', hrun, ho', hgr, hob⟩ := run_append_bytes (P := Try.prog) W1 w7.heap.size 34 34 5 i0 (.int .u8 0) Try.underlying34 hi hz0 hz1 hz2 rfl vb (bs.take q) [y] oW1 _ 1 1 rW1 (by rw [hlq]; omega) (by have := HFk.out.size; have := fW1.size; omega)
            obtain ⟨A3, n3, c3, hv3⟩ := own_form ho'
            subst hv3
            have fw' : Fr (fun b => b = g9 ∨ vb.ownBlock = some b) wr w' := fW1.grown hgr (fun k hk => .inl (.inr hk))
            have hne9 : vb.ownBlock ≠ some g9 := own_ne HVB.out.2.1 HVB.out.1 (by decide)
            have b9 : Blk w' g9 99 #[.bool bj, vb] := HVB.out.1.keep (F := fun b => vb.ownBlock = some b) ((by rw [hW1]; exact (Fr.refl _ _).drew.alloc _ : Fr (fun b => vb.ownBlock = some b) wr W1).grown hgr (fun k hk => .inl hk)) hne9
            have b9s := b9.set_ 1 (.slice A3 n3 c3)
            have o9 : (w'.setCell ⟨g9, 1, none⟩ (.slice A3 n3 c3)).ownsRow w7.heap.size 5 1 (.slice A3 n3 c3) (q + 1) (cellsB (bs.take (q + 1))) := by
              have h := own_keep ho' ((Fr.refl (fun b => b = g9) w').setCell (p := ⟨g9, 1, none⟩) (.inl rfl) (.slice A3 n3 c3)) (fun k hk e => by have := (own_ge ho' hk).1; have := HK.out.2.1; omega)
              rw [List.length_append, hlq, ← take_snoc_b hy] at h
              exact h
            have fS := fw'.setCell (p := ⟨g9, 1, none⟩) (.inl (.inl rfl)) (.slice A3 n3 c3)
            have HEND : Hid ((Blk (w'.setCell ⟨g9, 1, none⟩ (.slice A3 n3 c3)) g9 99 #[.bool bj, .slice A3 n3 c3] ∧ (w'.setCell ⟨g9, 1, none⟩ (.slice A3 n3 c3)).ownsRow w7.heap.size 5 1 (.slice A3 n3 c3) (q + 1) (cellsB (bs.take (q + 1))) ∧ (q + 1 = 0 → (.slice A3 n3 c3 : Value) = .slice none 0 0)) ∧ Fr (fun b => b = g9) w7 (w'.setCell ⟨g9, 1, none⟩ (.slice A3 n3 c3))) :=
              Lib.hid ⟨⟨b9s, o9, fun e => by omega⟩, HFk.out.trans fS (fun k hk e => by
                rcases e with e | e
                · exact e
                · have := (hvge _ e).1; omega)⟩
            have cc1 : wr.cell? ⟨g9, 1, none⟩ = some vb := (HVB.out.1.cell 1).trans rfl
            have cc2 : w'.cell? ⟨g9, 1, none⟩ = some vb := (b9.cell 1).trans rfl
            have rr2 := b9.frozen 1
            have cc3 : W1.cell? ⟨g9, 1, none⟩ = some vb := by rw [hW1]; exact (((HVB.out.1.keep (F := fun _ => False) ((Fr.refl _ _).drew.alloc _) (fun q => q))).cell 1).trans rfl
            have cc4 : (wr.alloc (.cells #[.int .u8 (y.toNat : Int)] 5)).cell? ⟨g9, 1, none⟩ = some vb := (((HVB.out.1.keep (F := fun _ => False) ((Fr.refl _ _).alloc _) (fun q => q))).cell 1).trans rfl
            subst hvb
            have HS := Lib.hid (And.intro fW1 (And.intro fw' (And.intro fS hrun)))
            have HW1 := Lib.hid hW1
            have hfq : ((fr : Int) + (q : Int)).toNat = fr + q := by omega
            have hq0 : (0 : Int) ≤ (fr : Int) + (q : Int) := by omega
            have hq1 : (fr : Int) + (q : Int) < 512 := by omega
            have hq2 : (q : Int) < (n : Int) := by omega
            have U5 : IntKind.i64.wrap ((fr : Int) + (q : Int)) = (fr : Int) + (q : Int) := wrap64 (by omega) (by omega)
            clear hy hyL hvge hlq fW1 bW1 rW1 oW1 hi hz0 hz1 hz2 hrun ho' hgr hob fw' hne9 b9 b9s o9 fS hPb
            go_upto_region 15 with (fail)
            refine wp_region_held_drew (S := fun w' => Fr (fun b => b = g9 ∨ (Value.slice A2 n2 c2).ownBlock = some b) wr w') (by kernel_rfl) ((Fr.refl _ _).drew) (fun hS0 => ?_)
            refine anyH_take 0 58 (.pointer (some ⟨g9, 1, none⟩)) rfl rfl (by kernel_rfl) (by kernel_rfl) (by kernel_rfl) (fun _ _ _ h => h) (.inl ⟨by rfl, fun w'' hS => by go_simp⟩) hS0 ?_
            (simp only [List.setIfInBounds_toArray, List.set_cons_zero, List.set_cons_succ])
            refine anyH_take 2 60 (.int .i64 (fr : Int)) rfl rfl (by kernel_rfl) (by kernel_rfl) (by kernel_rfl) (fun _ _ _ h => h) (.inl ⟨by rfl, fun w'' hS => by go_simp⟩) hS0 ?_
            (simp only [List.setIfInBounds_toArray, List.set_cons_zero, List.set_cons_succ])
            refine anyH_take 3 61 (.int .i64 (q : Int)) rfl rfl (by kernel_rfl) (by kernel_rfl) (by kernel_rfl) (fun _ _ _ h => h) (.inl ⟨by rfl, fun w'' hS => by go_simp⟩) hS0 ?_
            (simp only [List.setIfInBounds_toArray, List.set_cons_zero, List.set_cons_succ])
            refine anyH_take 4 62 (.int .i64 ((fr : Int) + (q : Int))) rfl rfl (by kernel_rfl) (by kernel_rfl) (by kernel_rfl) (fun _ _ _ h => h) (.inl ⟨by rfl, fun w'' hS => by go_simp⟩) hS0 ?_
            (simp only [List.setIfInBounds_toArray, List.set_cons_zero, List.set_cons_succ])
            refine anyH_take 5 63 (.pointer (some ⟨w.heap.size, fr + q, none⟩)) rfl rfl (by kernel_rfl) (by kernel_rfl) (by kernel_rfl) (fun _ _ _ h => h) (.inl ⟨by rfl, fun w'' hS => by go_simp⟩) hS0 ?_
            (simp only [List.setIfInBounds_toArray, List.set_cons_zero, List.set_cons_succ])
            refine anyH_take 6 64 (.int .u8 (y.toNat : Int)) rfl rfl (by kernel_rfl) (by kernel_rfl) (by kernel_rfl) (fun _ _ _ h => h) (.inl ⟨by rfl, fun w'' hS => by have q0 := HCB.out w'' hS; go_simp⟩) hS0 ?_
            (simp only [List.setIfInBounds_toArray, List.set_cons_zero, List.set_cons_succ])
            refine anyH_alt 1 7 (by kernel_rfl) ?_ ?_
            · refine wpOp_value 59 (.slice A2 n2 c2) rfl rfl (by rfl) (by go_simp) ⟨hS0, ?_⟩
              (simp only [List.setIfInBounds_toArray, List.set_cons_zero, List.set_cons_succ])
              refine anyH_value 7 65 (.slice (some ⟨wr.heap.size, 0, none⟩) 1 1) W1 (by kernel_rfl) rfl rfl (by rfl) (by rw [HW1.out]; go_simp) HS.out.1 ?_
              (simp only [List.setIfInBounds_toArray, List.set_cons_zero, List.set_cons_succ])
              refine anyH_value 8 66 (.slice A3 n3 c3) w' (by kernel_rfl) rfl rfl (by rfl) (run_append_op_b (.tmp 59) (.tmp 65) rfl rfl rfl HS.out.2.2.2) HS.out.2.1 ?_
              (simp only [List.setIfInBounds_toArray, List.set_cons_zero, List.set_cons_succ])
              refine anyH_take 9 67 (.pointer (some ⟨g9, 1, none⟩)) rfl rfl (by kernel_rfl) (by kernel_rfl) (by kernel_rfl) (fun _ _ _ h => h) (.inl ⟨by rfl, fun w'' hS => by go_simp⟩) HS.out.2.1 ?_
              (simp only [List.setIfInBounds_toArray, List.set_cons_zero, List.set_cons_succ])
              refine anyH_skip 10 (w'.setCell ⟨g9, 1, none⟩ (.slice A3 n3 c3)) (by kernel_rfl) rfl rfl (by rfl) (by go_simp) HS.out.2.2.1 ?_
              refine wpAnyH_done (by kernel_rfl) ?_ _
              go_wp2_with fail
              exact ⟨⟨q + 1, _, by go_num, by omega, Lib.hid HEND.out.1, Lib.hid HEND.out.2⟩, by simp [intOf]; omega⟩
            · refine wpOp_value 65 (.slice (some ⟨wr.heap.size, 0, none⟩) 1 1) (w' := W1) rfl rfl (by rfl) (by rw [HW1.out]; go_simp) ⟨HS.out.1, ?_⟩
              (simp only [List.setIfInBounds_toArray, List.set_cons_zero, List.set_cons_succ])
              refine anyH_value 1 59 (.slice A2 n2 c2) W1 (by kernel_rfl) rfl rfl (by rfl) (by go_simp) HS.out.1 ?_
              (simp only [List.setIfInBounds_toArray, List.set_cons_zero, List.set_cons_succ])
              refine anyH_value 8 66 (.slice A3 n3 c3) w' (by kernel_rfl) rfl rfl (by rfl) (run_append_op_b (.tmp 59) (.tmp 65) rfl rfl rfl HS.out.2.2.2) HS.out.2.1 ?_
              (simp only [List.setIfInBounds_toArray, List.set_cons_zero, List.set_cons_succ])
              refine anyH_take 9 67 (.pointer (some ⟨g9, 1, none⟩)) rfl rfl (by kernel_rfl) (by kernel_rfl) (by kernel_rfl) (fun _ _ _ h => h) (.inl ⟨by rfl, fun w'' hS => by go_simp⟩) HS.out.2.1 ?_
              (simp only [List.setIfInBounds_toArray, List.set_cons_zero, List.set_cons_succ])
              refine anyH_skip 10 (w'.setCell ⟨g9, 1, none⟩ (.slice A3 n3 c3)) (by kernel_rfl) rfl rfl (by rfl) (by go_simp) HS.out.2.2.1 ?_
              refine wpAnyH_done (by kernel_rfl) ?_ _
              go_wp2_with fail
              exact ⟨⟨q + 1, _, by go_num, by omega, Lib.hid HEND.out.1, Lib.hid HEND.out.2⟩, by simp [intOf]; omega⟩
          · obtain rfl : n = q := by omega
            obtain ⟨hbv, hsv, ho⟩ := HBv.out
            have hbn : bs.take n = bs := List.take_of_length_le (by have := HD.out.1; omega)
            have hown := HVB.out.2.1
            rw [hbn] at hown
            obtain ⟨A2, n2, c2, hvb⟩ := own_form hown
            have f9 : Fr (fun _ => False) wo wr := HK.out.1.trans HFk.out (fun k hk e => by have := HK.out.2.2.1; omega)
            obtain ⟨A1, c1, hv, hc1, hc1b, -⟩ := hsv.recs
            have hlj : (s.take j).length = j := by rw [List.length_take]; have := HM.out; omega
            rw [hlj] at hv
            have hn2 : n = n2 := by
              obtain ⟨A5, c5, e5, _, _⟩ := own_slice hown
              rw [e5] at hvb
              injection hvb with _ e6 _
              all_goals first | exact e6 | exact e6.symm
            subst hn2
            have hrec : RecV wr o (.bool bj) vb := by
              cases o with
              | none =>
                have e1 : bs = [] := HD.out.2.2
                have e2 : n = 0 := by rw [HD.out.1, e1]; rfl
                refine ⟨by rw [HK.out.2.2.2.2]; simp [isB, ho], HVB.out.2.2 e2⟩
              | some b =>
                have e1 : bs = b := HD.out.2.2
                refine ⟨by rw [HK.out.2.2.2.2, isB_iff.2 ⟨b, ho⟩], A2, c2, by rw [hvb, HD.out.1, e1], ?_⟩
                rw [hvb] at hown
                have h := Rd.of_own hown
                rw [HD.out.1, e1] at h
                exact h
            have habv : Abv w1.heap.size vb := fun ad k c e hk => by
              have h := (own_ge hown (b := ad.block) (by rw [e]; rfl)).1
              have := HK.out.2.1; have := HK.out.2.2.1; have := HF.out.size; omega
            have hoff : Off v vb := fun ad k c e hk hb => by
              have h := (own_ge hown (b := ad.block) (by rw [e]; rfl)).1
              obtain ⟨us, hu, _⟩ := hsv
              have h2 := (own_ge hu hb).2
              have := HK.out.2.1; have := HK.out.2.2.1; omega
            have f10 : Fr (fun _ => False) wr (wr.alloc (.cells #[.bool bj, vb] 99)) := (Fr.refl _ _).alloc _
            have b10 : Blk (wr.alloc (.cells #[.bool bj, vb] 99)) wr.heap.size 99 #[.bool bj, vb] := Blk.new _ _ _
            have hsw := (hsv.new f9).new f10
            have hbg := (hbv.keep f9 (fun q => q)).keep f10 (fun q => q)
            have hvne : v.ownBlock ≠ some g := by
              obtain ⟨us, hu, _⟩ := hsv
              exact own_ne hu hbv (by decide)
            have hz2 : wr.cell? ⟨g, 2, none⟩ = some v := ((hbv.keep f9 (fun q => q)).cell 2).trans rfl
            have hz9 : wr.cell? ⟨g9, 0, none⟩ = some (.bool bj) := (HVB.out.1.cell 0).trans rfl
            have hz8 : wr.cell? ⟨g9, 1, none⟩ = some vb := (HVB.out.1.cell 1).trans rfl
            have hle : w1.heap.size ≤ (wr.alloc (.cells #[.bool bj, vb] 99)).heap.size := by have := HF.out.size; have := f9.size; have := f10.size; omega
            have HA := Lib.hid (And.intro hsw (And.intro hbg (And.intro hvne (And.intro (hrec.new f10) (And.intro habv (And.intro hoff (And.intro b10 (And.intro hle (And.intro (f9.trans f10 (fun _ _ q => q)) (And.intro hlj ho))))))))))
            subst hvb hv
            clear hbv hsv ho hbn hown f9 hc1 hc1b hlj hrec habv hoff f10 b10 hsw hbg hvne hle HVB HFk hq hkn
            go_wp2_with (refine wpList_append_slot rfl (.tmp 69) (.tmp 71) rfl HA.out.1 HA.out.2.2.2.2.2.2.2.1 HA.out.2.2.2.2.2.2.1 HA.out.2.2.2.1 HA.out.2.2.2.2.2.1 HA.out.2.2.2.2.1 (by rw [HA.out.2.2.2.2.2.2.2.2.2.1]; omega) rfl rfl ?_; intro v' w' hs' f' hb'; obtain ⟨A3, c3, hv3, -, -, -⟩ := hs'.recs; have hk3 := HA.out.2.1.keep f' HA.out.2.2.1; have hy2 : w'.cell? ⟨g, 2, none⟩ = some _ := (hk3.cell 2).trans rfl; have hy3 := hk3.frozen 2; have HA2 := Lib.hid (And.intro hs' (And.intro f' (And.intro hb' hk3))); subst hv3; clear hs' f' hb' hk3)
            have hend : Hid (∃ v, Blk (w'.setCell ⟨g, 2, none⟩ (.slice A3 (s.take j ++ [o]).length c3)) g 74 #[.int .i64 kd, .int .i64 nx, v] ∧ SlV (w'.setCell ⟨g, 2, none⟩ (.slice A3 (s.take j ++ [o]).length c3)) (Abv w1.heap.size) w1.heap.size v (s.take (j + 1))) := Lib.hid ⟨.slice A3 (s.take j ++ [o]).length c3, HA2.out.2.2.2.set_ 2 _, by
              have h := HA2.out.1.keep ((Fr.refl (fun b => b = g) w').setCell (p := ⟨g, 2, none⟩) (.inl rfl) (.slice A3 (s.take j ++ [o]).length c3)) (fun b hb e => by
                obtain ⟨us, hu, _⟩ := HA2.out.1
                have := (own_ge hu hb).1
                omega) (fun u hu ad k c e hk q => by
                have := hu ad k c e hk
                omega)
              rw [take_snoc HA.out.2.2.2.2.2.2.2.2.2.2]
              exact h⟩
            have hfr : Hid (Fr (fun q => q = g) w1 (w'.setCell ⟨g, 2, none⟩ (.slice A3 (s.take j ++ [o]).length c3))) := Lib.hid (((HF.out.trans HA.out.2.2.2.2.2.2.2.2.1 (fun _ _ q => q.elim)).trans HA2.out.2.1 (fun i hi e => by
              obtain ⟨us, hu, _⟩ := HA.out.1
              have := (own_ge hu e).1
              omega)).setCell (p := ⟨g, 2, none⟩) (.inl rfl) _)
            have hll : (s.take j ++ [o]).length = min j s.length + 1 := by simp
            rw [hll] at hend hfr
            exact ⟨⟨j + 1, by go_num, by omega, hend, hfr⟩, by simp [intOf]; omega⟩
      · obtain rfl : m = j := by omega
        obtain ⟨v, hBv, hSv⟩ := HV.out
        have hst : s.take m = s := List.take_of_length_le (by have := HM.out; omega)
        rw [hst] at hSv
        obtain ⟨A1, c1, hv, hc1, -, hrecs⟩ := hSv.recs
        rw [← HM.out] at hv hc1
        have HSV := Lib.hid hSv
        subst hv
        have hpd : (PD.mk kd nx s).Ok := HX.out.1
        have hLb : (PD.mk kd nx s).bytes = L := HX.out.2.symm
        have CMay : ∀ W, Fr (fun _ => False) wr W → Calls Try.prog 70 #[.agg #[.int .i64 kd, .int .i64 nx, .slice A1 m c1]] W fun e w' => e = .returned (.bool true) ∧ Fr (fun _ => False) W w' := fun W f => by
          have h := RMay_any (c := c1) hpd (hrecs.new f) (by rw [← HM.out]; exact hc1)
          rw [← HM.out] at h
          exact h
        have CByt : ∀ W, Fr (fun _ => False) wr W → Calls Try.prog 49 #[.agg #[.int .i64 kd, .int .i64 nx, .slice A1 m c1]] W fun e w' => e = .returned (av L) ∧ Fr (fun _ => False) W w' := fun W f => by
          have h := Bytes_any (c := c1) hpd (hrecs.new f) (by rw [← HM.out]; exact hc1)
          rw [← HM.out, hLb] at h
          exact h
        have HMay := Lib.hid CMay
        have HByt := Lib.hid CByt
        have HR4 : Hid (∀ W, Fr (fun _ => False) wr W → W.rangeAt g 0 [.int .i64 kd, .int .i64 nx, .slice A1 m c1] ∧ W.rangeAt w.heap.size 0 (cellsB L)) := Lib.hid fun W f => ⟨fun k u hk => by
          have hb := hBv.keep f (fun q => q)
          rw [Nat.zero_add, hb.cell, ← hk]
          simp, page_range (HW.out.2.2.2.keep f (fun q => q)) HL.out.1⟩
        have hupr := Try.underlying74
        have hinr : (Try.prog.info? 74).map (·.size) = some [Value.int .i64 (kd : Int), Value.int .i64 (nx : Int), Value.slice A1 m c1].length := infoRef
        have HEQ : Hid (∀ W, (Op.equalIn 10000 26 (.agg (cellsB L).toArray) (.agg (cellsB L).toArray)).run Try.prog W = .ok true W) := Lib.hid (fun W => page_same L HL.out.1 W)
        have HRX := Lib.hid (And.intro hrecs (And.intro hc1 (And.intro hBv (And.intro HW.out.2.2.1 HW.out.2.1))))
        clear hBv hSv hst hrecs hc1 hpd hLb CMay CByt HV hlt hj HC0 HG8 HG10 HG
        go_upto_region 17 with (fail)
        refine wp_region_held_drew (S := fun w' => Fr (fun _ => False) wr w') (by kernel_rfl) ((Fr.refl _ _).drew) (fun hS0 => ?_)
        refine anyH_take 0 74 (.agg #[.int .i64 (kd : Int), .int .i64 (nx : Int), .slice A1 m c1]) rfl rfl (by kernel_rfl) (by kernel_rfl) (by kernel_rfl) (fun _ _ _ h => h) (yieldsIf_load_mid (by rfl) _ _ rfl _ _ rfl _ _ (fun w' f => (HR4.out w' f).1) hupr rfl hinr) hS0 ?_
        (simp only [List.setIfInBounds_toArray, List.set_cons_zero, List.set_cons_succ])
        refine anyH_one 1 75 (.bool true) (by kernel_rfl) (tame_call 75 rfl rfl (by rfl) (fun w'' hS => by go_simp) (fun w'' hS => ((HMay.out w'' hS).mono fun e w3 he => ⟨he.1, hS.trans he.2 (fun _ _ q => q)⟩))) hS0 (fun wq hS0 => ?_)
        (simp only [List.setIfInBounds_toArray, List.set_cons_zero, List.set_cons_succ])
        refine anyH_take 2 76 (.bool false) rfl rfl (by kernel_rfl) (by kernel_rfl) (by kernel_rfl) (fun _ _ _ h => h) (.inl ⟨by rfl, fun w'' hS => by go_simp⟩) hS0 ?_
        (simp only [List.setIfInBounds_toArray, List.set_cons_zero, List.set_cons_succ])
        refine anyH_take 3 77 (.bool false) rfl rfl (by kernel_rfl) (by kernel_rfl) (by kernel_rfl) (fun _ _ _ h => h) (.inl ⟨by rfl, fun w'' hS => by go_simp⟩) hS0 ?_
        (simp only [List.setIfInBounds_toArray, List.set_cons_zero, List.set_cons_succ])
        refine anyH_take 4 78 (.agg #[.int .i64 (kd : Int), .int .i64 (nx : Int), .slice A1 m c1]) rfl rfl (by kernel_rfl) (by kernel_rfl) (by kernel_rfl) (fun _ _ _ h => h) (yieldsIf_load_mid (by rfl) _ _ rfl _ _ rfl _ _ (fun w' f => (HR4.out w' f).1) hupr rfl hinr) hS0 ?_
        (simp only [List.setIfInBounds_toArray, List.set_cons_zero, List.set_cons_succ])
        refine anyH_take 6 80 (av L) rfl rfl (by kernel_rfl) (by kernel_rfl) (by kernel_rfl) (fun _ _ _ h => h) (yieldsIf_load_mid (by rfl) _ _ rfl _ _ rfl _ _ (fun w' f => (HR4.out w' f).2) hup rfl hinfo) hS0 ?_
        (simp only [List.setIfInBounds_toArray, List.set_cons_zero, List.set_cons_succ])
        refine anyH_one 5 79 (av L) (by kernel_rfl) (tame_call 79 rfl rfl (by rfl) (fun w'' hS => by go_simp) (fun w'' hS => ((HByt.out w'' hS).mono fun e w3 he => ⟨he.1, hS.trans he.2 (fun _ _ q => q)⟩))) hS0 (fun wp hS0 => ?_)
        (simp only [List.setIfInBounds_toArray, List.set_cons_zero, List.set_cons_succ])
        refine anyH_take 7 81 (.bool false) rfl rfl (by kernel_rfl) (by kernel_rfl) (by kernel_rfl) (fun _ _ _ h => h) (.inl ⟨by rfl, fun w'' hS => by have q0 := HEQ.out w''; go_simp⟩) hS0 ?_
        (simp only [List.setIfInBounds_toArray, List.set_cons_zero, List.set_cons_succ])
        refine anyH_take 8 82 (.bool false) rfl rfl (by kernel_rfl) (by kernel_rfl) (by kernel_rfl) (fun _ _ _ h => h) (.inl ⟨by rfl, fun w'' hS => by go_simp⟩) hS0 ?_
        (simp only [List.setIfInBounds_toArray, List.set_cons_zero, List.set_cons_succ])
        refine wpAnyH_done (by kernel_rfl) ?_ _
        have hbg := HRX.out.2.2.1.keep hS0 (fun q => q)
        have hb2 := HRX.out.2.2.2.1.keep hS0 (fun q => q)
        have e0 : wp.cell? ⟨g, 0, none⟩ = some (.int .i64 kd) := (hbg.cell 0).trans rfl
        have e1 : wp.cell? ⟨g, 1, none⟩ = some (.int .i64 nx) := (hbg.cell 1).trans rfl
        have e2 : wp.cell? ⟨g, 2, none⟩ = some (.slice A1 m c1) := (hbg.cell 2).trans rfl
        have d0 : wp.cell? ⟨w.heap.size + 1, 0, none⟩ = some (.int .i64 0) := (hb2.cell 0).trans rfl
        have d1 : wp.cell? ⟨w.heap.size + 1, 1, none⟩ = some (.int .i64 0) := (hb2.cell 1).trans rfl
        have d2 : wp.cell? ⟨w.heap.size + 1, 2, none⟩ = some (.slice none 0 0) := (hb2.cell 2).trans rfl
        have p0 := hb2.frozen 0
        have p1 := hb2.frozen 1
        have p2 := hb2.frozen 2
        have hz := ((hb2.set_ 0 (.int .i64 kd)).set_ 1 (.int .i64 nx)).set_ 2 (.slice A1 m c1)
        have hfz : Fr (fun b => b = w.heap.size + 1) wp (((wp.setCell ⟨w.heap.size + 1, 0, none⟩ (.int .i64 kd)).setCell ⟨w.heap.size + 1, 1, none⟩ (.int .i64 nx)).setCell ⟨w.heap.size + 1, 2, none⟩ (.slice A1 m c1)) := (((Fr.refl (fun b => b = w.heap.size + 1) wp).setCell (p := ⟨w.heap.size + 1, 0, none⟩) (.inl rfl) _).setCell (p := ⟨w.heap.size + 1, 1, none⟩) (.inl rfl) _).setCell (p := ⟨w.heap.size + 1, 2, none⟩) (.inl rfl) _
        have HZ := Lib.hid (And.intro hz hfz)
        have HZ2 : Hid (RecsAt (((wp.setCell ⟨w.heap.size + 1, 0, none⟩ (.int .i64 kd)).setCell ⟨w.heap.size + 1, 1, none⟩ (.int .i64 nx)).setCell ⟨w.heap.size + 1, 2, none⟩ (.slice A1 m c1)) A1 s) := Lib.hid (by
          have hgx := HGE.out
          have hxs := HB.out.2.2.2
          have h := (HSV.out.new hS0).keep hfz (fun b hb e => by
            obtain ⟨us, hu, _⟩ := HSV.out
            have := (own_ge hu hb).1
            omega) (fun u hu ad k c e hk q => by
            have := hu ad k c e hk
            omega)
          obtain ⟨A5, c5, e5, _, _, h5⟩ := h.recs
          injection e5 with e6 _ _
          rw [← e6] at h5
          exact h5)
        have HFF := Lib.hid ((HRX.out.2.2.2.2.trans hS0 (fun _ _ q => q)).trans hfz (fun q hq e => by omega))
        clear hbg hb2 hS0 hz hfz
        go_wp2_with fail
        refine bodyPost_ret (results_ref2 rfl _ _ (w.heap.size + 1) _ _ _ _ rfl rfl HZ.out.1) rfl ⟨A1, m, c1, rfl, HM.out, HRX.out.2.1, HZ2.out, HFF.out⟩
end
end Go.Proofs.Ytijdbngjnhhheaa
