/- couponref04: Says, Room. -/
import Derived.Test.YtjdbgojnpnlblaaGreatVzh
import Derived.Deep.LoopGhost
namespace Go.Proofs.YtjdbgojnpnlblaaGreat
open Go.RowKit

/-- Records, in memory, each in a block of its own. -/
def RcsK (w : World) (base : Nat) (v : Value) (rs : List (List Chg)) : Prop := ∃ vs : List Value, w.ownsRow base 60 1 v vs.length vs ∧ vs.length = rs.length ∧ ∀ (i : Nat) (u : Value) (r : List Chg), vs[i]? = some u → rs[i]? = some r → RcV w u r ∧ ∀ b, u.ownBlock = some b → base ≤ b ∧ ∃ cs, Blk w b 120 cs
theorem RcsK.nil (w : World) (base : Nat) : RcsK w base (.slice none 0 0) [] := ⟨[], World.ownsRow_nil _ _ _ _, rfl, fun i u r hu => by simp at hu⟩
theorem RcsK.keep {F : Nat → Prop} {w w' : World} {base : Nat} {v : Value} {rs : List (List Chg)} (h : RcsK w base v rs) (f : Fr F w w') (hF : ∀ b, base ≤ b → ¬ F b) : RcsK w' base v rs := by
  obtain ⟨vs, h1, h2, h3⟩ := h
  refine ⟨vs, own_keep h1 f (fun k hk => hF k (own_low h1 hk)), h2, fun i u r hu hr => ?_⟩
  obtain ⟨q1, q2⟩ := h3 i u r hu hr
  refine ⟨q1.keep f (fun b hb => hF b (q2 b hb).1), fun b hb => ?_⟩
  obtain ⟨j1, cs, j2⟩ := q2 b hb
  exact ⟨j1, cs, j2.keep f (hF b j1)⟩
theorem RcsK.new {w w' : World} {base : Nat} {v : Value} {rs : List (List Chg)} (h : RcsK w base v rs) (f : Fr (fun _ => False) w w') : RcsK w' base v rs := h.keep f (fun _ _ q => q)
theorem RcsK.rd {w : World} {base : Nat} {v : Value} {rs : List (List Chg)} (h : RcsK w base v rs) : RcsR w v rs := by
  obtain ⟨vs, h1, h2, h3⟩ := h
  have hv : RcsV w base v rs := ⟨vs, h1, h2, h3⟩
  exact hv.rd
theorem RcsK.form {w : World} {base : Nat} {v : Value} {rs : List (List Chg)} (h : RcsK w base v rs) : ∃ A c, v = .slice A rs.length c ∧ rs.length ≤ c := by
  obtain ⟨vs, h1, h2, _⟩ := h
  obtain ⟨A, c, e, q1, _⟩ := own_slice h1
  exact ⟨A, c, by rw [e, h2], by omega⟩
theorem RcsK.ne {w : World} {base L : Nat} {v : Value} {rs : List (List Chg)} {cs : Array Value} (h : RcsK w base v rs) (hb : Blk w L 43 cs) : v.ownBlock ≠ some L := by
  obtain ⟨vs, h1, _⟩ := h
  exact own_ne h1 hb (by decide)
theorem blk_type {w : World} {g : Nat} {t t' : TypeId} {cs cs' : Array Value} (h : Blk w g t cs) (h' : Blk w g t' cs') : t = t' := by
  unfold Blk at h h'
  rw [h] at h'
  injection h' with h'
  injection h'
theorem RcsK.set {w w' : World} {base L : Nat} {v : Value} {rs : List (List Chg)} {cs : Array Value} (h : RcsK w base v rs) (hb : Blk w L 43 cs) (f : Fr (fun b => b = L) w w') : RcsK w' base v rs := by
  obtain ⟨vs, h1, h2, h3⟩ := h
  refine ⟨vs, own_keep h1 f (fun k hk e => own_ne h1 hb (by decide) (by rw [hk, e])), h2, fun i u r hu hr => ?_⟩
  obtain ⟨q1, q2⟩ := h3 i u r hu hr
  have hne : ∀ b, u.ownBlock = some b → ¬ b = L := fun b hb' e => by
    obtain ⟨_, cs', j⟩ := q2 b hb'
    rw [e] at j
    exact absurd (blk_type j hb) (by decide)
  refine ⟨q1.keep f hne, fun b hb' => ?_⟩
  obtain ⟨j1, cs', j2⟩ := q2 b hb'
  exact ⟨j1, cs', j2.keep f (hne b hb')⟩
theorem RcsK.push {w : World} {base : Nat} {v : Value} {A : Option Addr} {k c : Nat} {rs : List (List Chg)} {r : List Chg} (h : RcsK w base v rs) (hu : RcV w (.slice A k c) r) (hub : ∀ b, (Value.slice A k c).ownBlock = some b → base ≤ b ∧ ∃ cs, Blk w b 120 cs) (hN : rs.length ≤ 1000) (hb : base ≤ w.heap.size) (ty : TypeId) :
    ∃ v' w', (Builtin.append_ #[29, 29] ty #[v, .slice (some ⟨w.heap.size, 0, none⟩) 1 1]).run Tryz.prog (w.alloc (.cells #[.slice A k c] 60)) = .ok v' w' ∧ RcsK w' base v' (rs ++ [r]) ∧ Fr (fun b => v.ownBlock = some b) w w' := by
  obtain ⟨vs, ho, hl, hel⟩ := h
  obtain ⟨i0, hi, hz0, hz1, hz2⟩ := info_parts infoRec
  have hb0 := Blk.new w 60 #[.slice A k c]
  have fW : Fr (fun _ => False) w (w.alloc (.cells #[.slice A k c] 60)) := (Fr.refl _ w).alloc _
  obtain ⟨v', w', hrun, ho', hg, _, hat⟩ := run_append_own_at (P := Tryz.prog) (w.alloc (.cells #[.slice A k c] 60)) base 29 ty 60 i0 (.slice none 0 0) 1 24 Tryz.underlying29 hi hz0 hz1 hz2 rfl (by omega) v vs.length vs (own_keep ho fW (fun _ _ q => q)) ⟨w.heap.size, 0, none⟩ 1 1 [.slice A k c] rfl
    (fun j u hj => by
      rw [Addr.add_mid, Nat.zero_add, hb0.cell]
      simpa using hj) (fun u hu => by rw [List.mem_singleton.1 hu]; rfl) (by simp only [maxLen]; omega) (by omega) (by simp only [World.size_alloc]; omega)
  have f' : Fr (fun b => v.ownBlock = some b) w w' := (fW.mono (fun _ _ q => q.elim)).grown hg (fun j e => .inl e)
  have key : ∀ {u : Value} {x : List Chg}, RcV w u x → (∀ b, u.ownBlock = some b → base ≤ b ∧ ∃ cs, Blk w b 120 cs) → RcV w' u x ∧ ∀ b, u.ownBlock = some b → base ≤ b ∧ ∃ cs, Blk w' b 120 cs := fun q1 q2 => by
    refine ⟨q1.keep f' (fun b hb e => ?_), fun b hb => ?_⟩
    · obtain ⟨_, cs, j⟩ := q2 b hb
      exact own_ne ho j (by decide) e
    · obtain ⟨j1, cs, j2⟩ := q2 b hb
      exact ⟨j1, cs, j2.keep f' (fun e => own_ne ho j2 (by decide) e)⟩
  refine ⟨v', w', hrun, ⟨vs ++ [.slice A k c], by rw [List.length_append]; exact ho', by simp [hl], fun i u x hu' hx => ?_⟩, f'⟩
  by_cases hi' : i < vs.length
  · rw [List.getElem?_append_left hi'] at hu'
    rw [List.getElem?_append_left (by omega)] at hx
    obtain ⟨q1, q2⟩ := hel i u x hu' hx
    exact key q1 q2
  · have hiv : i = vs.length := by
      have := (List.getElem?_eq_some_iff.1 hu').1
      simp at this
      omega
    subst hiv
    rw [List.getElem?_append_right (Nat.le_refl _), Nat.sub_self] at hu'
    rw [hl, List.getElem?_append_right (Nat.le_refl _), Nat.sub_self] at hx
    have e1 : u = .slice A k c := by simpa using hu'.symm
    have e2 : x = r := by simpa using hx.symm
    subst e1 e2
    exact key hu hub
section
variable {ops : Array Oper} {o : Oper} {a : Act} {Q : Exit → Act → World → Prop}
theorem wpList_one_rec {rest : List Oper} {w : World} (hg : o.guard = none) (x : Operand) (hop : o.op = .buildSlice 29 1 #[(0, x)]) {A : Option Addr} {k c : Nat} (hx : a.eval x = .slice A k c)
    (hK : wpList Tryz.prog ops Q rest (a.put o.dst (.slice (some ⟨w.heap.size, 0, none⟩) 1 1)) (w.alloc (.cells #[.slice A k c] 60))) : wpList Tryz.prog ops Q (o :: rest) a w := by
  refine wpList_plain hg fun K hK' => ?_
  have hr := slice_of_rec A k c w
  unfold Oper.wp execOp
  simp only [hop, Array.map, hx]
  simp [hr, hx, Result.andThen]
  exact hK' _ _ hK
theorem wpList_push_rec {rest : List Oper} {w W : World} (hg : o.guard = none) (s x : Operand) (hop : o.op = Op.call { callee := Callee.builtin Builtin.append, args := #[s, x], argTypes := #[29, 29] }) {v y : Value} (hs : a.eval s = v) (hx : a.eval x = y) {v' : Value} {w' : World}
    (hrun : (Builtin.append_ #[29, 29] o.type #[v, y]).run Tryz.prog W = .ok v' w') (hW : w = W)
    (hK : wpList Tryz.prog ops Q rest (a.put o.dst v') w') : wpList Tryz.prog ops Q (o :: rest) a w := by
  refine wpList_plain hg fun K hK' => ?_
  subst hW
  unfold Oper.wp
  simp [execOp, hop, resolve, invoke, builtin, hs, hx, hrun, Result.andThen]
  exact hK' _ _ hK
end
abbrev rlC (c s : Nat) (z : Int) (a : Nat) (v : Value) : Array Value := #[.int .u64 (c : Nat), .int .u64 (s : Nat), .int .i64 z, v, .int .i64 (a : Nat)]
theorem build_rl (c s : Nat) (z : Int) (w : World) : (Instr.build 43 #[(0, .int .u64 (c : Nat)), (1, .int .u64 (s : Nat)), (2, .int .i64 z)]).run Tryz.prog w = .ok (.agg #[.int .u64 (c : Nat), .int .u64 (s : Nat), .int .i64 z, .slice none 0 0, .int .i64 0]) w := by kernel_rfl
theorem zeroTag (w : World) : (zeroValue 91).run Tryz.prog w = .ok (.agg ([.int .u64 0, .int .i64 0] : List Value).toArray) w := by
  have h : (Tryz.prog.info? 91).bind (·.zero) = some (.agg ([.int .u64 0, .int .i64 0] : List Value).toArray) := by kernel_rfl
  cases hi : Tryz.prog.info? 91 with
  | none => rw [hi] at h; cases h
  | some i =>
    rw [hi] at h
    simp only [Option.bind_some] at h
    simp [zeroValue, typeInfo, hi, h]
/-- What a log of the document says, in memory. -/
def SaysAt (w : World) (base L c s : Nat) (z : Int) (rs : List (List Chg × Nat)) : Prop := ∃ v, Blk w L 43 (rlC c s z (usedOf rs) v) ∧ base ≤ L ∧ RcsK w base v (rs.map (·.1))
theorem SaysAt.new {w w' : World} {base L c s : Nat} {z : Int} {rs : List (List Chg × Nat)} (h : SaysAt w base L c s z rs) (f : Fr (fun _ => False) w w') : SaysAt w' base L c s z rs := by
  obtain ⟨v, h1, h2, h3⟩ := h
  exact ⟨v, h1.keep f (fun q => q), h2, h3.new f⟩
def SayQ (w : World) (z : Bool) (c s : Nat) (n : Int) (rs : List (List Chg × Nat)) (e : Ending) (w' : World) : Prop :=
  (z = false → e = .returned (.tuple #[.pointer none, .bool false])) ∧ (z = true → ∃ L, e = .returned (.tuple #[.pointer (some ⟨L, 0, none⟩), .bool true]) ∧ SaysAt w' w.heap.size L c s n rs) ∧ Fr (fun _ => False) w w'
def SaysR (w : World) (ss : List (List UInt8)) (e : Ending) (w' : World) : Prop :=
  SayQ w (isHd (ss.getD 0 [])) (cntOf (ss.getD 0 [])) (sinOf (ss.getD 0 [])) ((ss.length : Int) - 1) (recs (cntOf (ss.getD 0 [])) (sinOf (ss.getD 0 [])) (ss.drop 1)) e w'
theorem usedOf_snoc (pre : List (List Chg × Nat)) (r : List Chg) (k : Nat) : usedOf (pre ++ [(r, k)]) = usedOf pre + k := by simp [usedOf]
/-- A round's state. -/
structure SayI (wr : World) (base L c s : Nat) (z : Int) (body : List (List UInt8)) (rs : List (List Chg × Nat)) (f : Nat) (pre : List (List Chg × Nat)) (v : Value) : Prop where
  blk : Blk wr L 43 (rlC c s z (usedOf pre) v)
  eq : pre ++ recsFrom c s f pre.length (body.drop (usedOf pre)) = rs
  lt : body.length < f + usedOf pre
  le : usedOf pre ≤ body.length
  pl : pre.length ≤ usedOf pre
  low : base ≤ L
  rk : RcsK wr base v (pre.map (·.1))
theorem SayI.new {wr w' : World} {base L c s : Nat} {z : Int} {body : List (List UInt8)} {rs : List (List Chg × Nat)} {f : Nat} {pre : List (List Chg × Nat)} {v : Value} (h : SayI wr base L c s z body rs f pre v) (g : Fr (fun _ => False) wr w') : SayI w' base L c s z body rs f pre v :=
  ⟨h.blk.keep g (fun q => q), h.eq, h.lt, h.le, h.pl, h.low, h.rk.new g⟩
theorem SayI.stop {wr w' : World} {base L c s : Nat} {z : Int} {body : List (List UInt8)} {rs : List (List Chg × Nat)} {f : Nat} {pre : List (List Chg × Nat)} {v : Value} (h : SayI wr base L c s z body rs f pre v) (g : Fr (fun _ => False) wr w') (hs : recsFrom c s f pre.length (body.drop (usedOf pre)) = []) : SaysAt w' base L c s z rs := by
  have e := h.eq
  rw [hs, List.append_nil] at e
  subst e
  exact ⟨v, h.blk.keep g (fun q => q), h.low, h.rk.new g⟩
set_option maxRecDepth 100000 in
set_option maxHeartbeats 8000000 in
theorem rsays_any {w : World} {v : Value} {ss : List (List UInt8)} (h : SecV w v ss) (h0 : 0 < ss.length) (h9 : ss.length ≤ 900) : Calls Tryz.prog 14 #[v] w (SaysR w ss) := by
  have HV := Lib.hid h
  obtain ⟨A, cap, rfl, hc1, hc2, h3⟩ := h
  obtain ⟨b, off, rfl, hsec⟩ := h3 h0
  have hx : ss[0]? = some (ss.getD 0 []) := by simp [h0]
  obtain ⟨hxl, hr0⟩ := hsec 0 _ hx
  rw [Nat.zero_mul, Nat.add_zero] at hr0
  have hall : ∀ s ∈ ss, s.length = 128 := fun s hs => by
    obtain ⟨i, hi⟩ := List.getElem?_of_mem hs
    exact (hsec i s hi).1
  obtain ⟨n, hn⟩ : ∃ n, n = ss.length := ⟨_, rfl⟩
  rw [← hn] at HV h0 h9 ⊢
  obtain ⟨x, hxe⟩ : ∃ x, x = ss.getD 0 [] := ⟨_, rfl⟩
  unfold SaysR
  rw [← hxe, ← hn]
  rw [← hxe] at hxl hr0
  obtain ⟨c, hc⟩ : ∃ c, c = cntOf x := ⟨_, rfl⟩
  obtain ⟨si, hsi⟩ : ∃ si, si = sinOf x := ⟨_, rfl⟩
  have HHD := Lib.hid (fun w => rheadof_any w x hxl)
  rw [← hc, ← hsi] at HHD ⊢
  obtain ⟨z, hz⟩ : ∃ z, z = isHd x := ⟨_, rfl⟩
  rw [← hz] at HHD ⊢
  obtain ⟨rs, hrs⟩ : ∃ rs, rs = recs c si (ss.drop 1) := ⟨_, rfl⟩
  rw [← hrs]
  have hcap9 : cap ≤ 9223372036854775807 := by simp only [maxLen] at hc2; omega
  have HH := Lib.hid (And.intro hxl (And.intro hr0 (And.intro hn (And.intro hrs (And.intro hall hc1)))))
  have hz0 : (0 : Int) < (n : Int) := by omega
  clear hxl hr0 hn hrs hall hc1 hc2 h3 hsec hx hxe hc hsi hz
  go_enter Tryz.func14, Tryz.ntmps14
  go_wp2_with (refine wpList_load_mid rfl 45 _ rfl b off rfl (cellsB x) _ HH.out.2.1 Tryz.underlying45 rfl (by rw [infoSector, cellsB_len, HH.out.1]) ?_)
  refine (HHD.out w).mono ?_
  rintro e w1 ⟨rfl, f1⟩
  have HF1 := Lib.hid f1
  clear f1 HHD
  cases z with
  | false =>
    go_wp2_with fail
    refine bodyPost_ret (results_tmp2 rfl _ _ _) rfl ?_
    exact ⟨fun _ => rfl, (fun q => by cases q), HF1.out⟩
  | true =>
    have hbl := build_rl c si ((n : Int) - 1)
    have hb4 := Blk.new w1 43 #[.int .u64 (c : Nat), .int .u64 (si : Nat), .int .i64 ((n : Int) - 1), .slice none 0 0, .int .i64 0]
    have f4 := HF1.out.alloc (.cells #[.int .u64 (c : Nat), .int .u64 (si : Nat), .int .i64 ((n : Int) - 1), .slice none 0 0, .int .i64 0] 43)
    obtain ⟨L, hL⟩ : ∃ L, L = w1.heap.size := ⟨_, rfl⟩
    have hl0 : w.heap.size ≤ L := by rw [hL]; exact HF1.out.size
    rw [← hL] at hb4
    have hbody : (ss.drop 1).length = n - 1 := by rw [List.length_drop, HH.out.2.2.1]
    have HI0 : Hid (∃ pre v, SayI (w1.alloc (.cells #[.int .u64 (c : Nat), .int .u64 (si : Nat), .int .i64 ((n : Int) - 1), .slice none 0 0, .int .i64 0] 43)) w.heap.size L c si ((n : Int) - 1) (ss.drop 1) rs n pre v) := Lib.hid ⟨[], .slice none 0 0, hb4, by
      rw [HH.out.2.2.2.1]
      unfold recs
      rw [hbody, show n - 1 + 1 = n by omega]
      rfl, by rw [hbody]; show n - 1 < n + 0; omega, Nat.zero_le _, Nat.zero_le _, hl0, RcsK.nil _ _⟩
    have HF4 := Lib.hid f4
    have HLL := Lib.hid (And.intro hL hbody)
    clear hb4 f4 hl0 hbody
    go_wp2_with fail
    rw [← HLL.out.1]
    clear hbl hL
    go_loopg [8] n (fun f s8 wr => Hid (∃ pre v, SayI wr w.heap.size L c si ((n : Int) - 1) (ss.drop 1) rs f pre v) ∧ Hid (Fr (fun _ => False) w wr))
    case atStart => exact ⟨HI0, HF4⟩
    case round =>
      obtain ⟨HI, HF⟩ := hrel
      clear HI0 HF4
      obtain ⟨pre, v, hI⟩ := HI.out
      obtain ⟨f, rfl⟩ : ∃ f, gk = f + 1 := ⟨gk - 1, by have h1 := hI.lt; have h2 := hI.le; omega⟩
      obtain ⟨Av, cv, rfl, hcv⟩ := hI.rk.form
      rw [List.length_map] at hI hcv
      obtain ⟨a0, ha0⟩ : ∃ a0, a0 = usedOf pre := ⟨_, rfl⟩
      obtain ⟨m, hm⟩ : ∃ m, m = pre.length := ⟨_, rfl⟩
      rw [← hm] at hI hcv
      have hle := hI.le
      have hpl := hI.pl
      have hbL := hI.blk
      rw [← ha0] at hle hbL hpl
      have hbd := HLL.out.2
      obtain ⟨A', hsl, hsv, _⟩ := slice_secV (HV.out.new HF.out) (1 + a0) (by rw [← HH.out.2.2.1]; omega)
      have hsl' : ∀ W, (Instr.slice 33 (.slice (some ⟨b, off, none⟩) n cap) (some (.int .i64 (1 + (a0 : Int)))) none none).run Tryz.prog W = .ok (.slice A' (n - (1 + a0)) (cap - (1 + a0))) W := hsl
      have hrest : ss.drop (1 + a0) = (ss.drop 1).drop (usedOf pre) := by rw [List.drop_drop, ← ha0]
      rw [hrest] at hsv
      have hrl : ((ss.drop 1).drop (usedOf pre)).length = n - 1 - a0 := by rw [List.length_drop, hbd, ← ha0]
      have hra : ∀ s ∈ (ss.drop 1).drop (usedOf pre), s.length = 128 := fun s hs => HH.out.2.2.2.2.1 s (List.mem_of_mem_drop (List.mem_of_mem_drop hs))
      have HJ := Lib.hid (rjoin_any hsv (by rw [hrl]; omega))
      rw [refJ_eq hra] at HJ
      obtain ⟨rest, hre⟩ : ∃ rest, rest = (ss.drop 1).drop (usedOf pre) := ⟨_, rfl⟩
      rw [← hre] at HJ hrl hra
      have k0 := hbL.cell 0
      have k1 := hbL.cell 1
      have k2 := hbL.cell 2
      have k3 := hbL.cell 3
      have k4 := hbL.cell 4
      simp only [List.getElem?_toArray, List.getElem?_cons_zero, List.getElem?_cons_succ] at k0 k1 k2 k3 k4
      have HI2 := Lib.hid (And.intro hI (And.intro hbL (And.intro hre (And.intro hrl (And.intro hra (And.intro hle (And.intro ha0 (And.intro hm (And.intro hcv hpl)))))))))
      have hnL : n ≤ 900 := h9
      have ha9 : a0 ≤ 900 := by omega
      have hi1 : (1 : Int) + (a0 : Int) ≤ (n : Int) := by omega
      clear hI hbL hsl hsv hrest hrl hra hre hle ha0 hm hcv hpl hbd HI
      go_wp2_with fail
      refine HJ.out.mono ?_
      rintro e w5 ⟨j1, j2, f5⟩
      clear HJ hsl' k0 k1 k2 k3 k4
      rcases hj : joinOf rest with _ | bb
      · obtain rfl := j1 hj
        have hstop : recsFrom c si (f + 1) pre.length ((ss.drop 1).drop (usedOf pre)) = [] := by rw [recsFrom, ← HI2.out.2.2.1, hj]
        obtain ⟨W6, hW6, hb6, f6, th6⟩ : ∃ W6, W6 = w5.alloc (.cells #[.int .u64 0, .int .i64 0] 91) ∧ Blk W6 w5.heap.size 91 #[.int .u64 0, .int .i64 0] ∧ Fr (fun _ => False) w5 W6 ∧ True := ⟨_, rfl, Blk.new w5 _ _, (Fr.refl _ w5).alloc _, trivial⟩
        have g6 := f5.trans f6 (fun _ _ q => q)
        have HE6 := Lib.hid hW6
        have H6 := Lib.hid (And.intro th6 (And.intro (HI2.out.1.stop (g6.drew) hstop) (HF.out.trans g6 (fun _ _ q => q)).drew))
        clear hstop hW6 hb6 f6 th6 g6 f5 j1 j2 hj
        go_upto_region 6 with fail
        rw [← HE6.out]
        (try simp only [Act.put, List.setIfInBounds_toArray, List.set_cons_zero, List.set_cons_succ])
        refine wp_region_held_drew (S := fun w' => Fr (fun _ => False) W6 w') (by kernel_rfl) ((Fr.refl _ _).drew) (fun hS0 => ?_)
        refine anyH_take 0 44 (.bool false) rfl rfl (by kernel_rfl) (by kernel_rfl) (by kernel_rfl) (fun _ _ _ h => h) (.inl ⟨by rfl, fun w'' hS => by go_simp⟩) hS0 ?_
        (simp only [List.setIfInBounds_toArray, List.set_cons_zero, List.set_cons_succ])
        refine anyH_take 1 45 (.bool true) rfl rfl (by kernel_rfl) (by kernel_rfl) (by kernel_rfl) (fun _ _ _ h => h) (.inl ⟨by rfl, fun w'' hS => by go_simp⟩) hS0 ?_
        (simp only [List.setIfInBounds_toArray, List.set_cons_zero, List.set_cons_succ])
        refine anyH_take 2 46 (.bool true) rfl rfl (by kernel_rfl) (by kernel_rfl) (by kernel_rfl) (fun _ _ _ h => h) (.inl ⟨by rfl, fun w'' hS => by go_simp⟩) hS0 ?_
        (simp only [List.setIfInBounds_toArray, List.set_cons_zero, List.set_cons_succ])
        refine anyH_take 3 47 undef rfl rfl (by kernel_rfl) (by kernel_rfl) (by kernel_rfl) (fun _ _ _ h => h) (.inr ⟨by rfl, rfl⟩) hS0 ?_
        (simp only [List.setIfInBounds_toArray, List.set_cons_zero, List.set_cons_succ])
        refine anyH_take 4 48 undef rfl rfl (by kernel_rfl) (by kernel_rfl) (by kernel_rfl) (fun _ _ _ h => h) (.inr ⟨by rfl, rfl⟩) hS0 ?_
        (simp only [List.setIfInBounds_toArray, List.set_cons_zero, List.set_cons_succ])
        refine anyH_take 5 49 undef rfl rfl (by kernel_rfl) (by kernel_rfl) (by kernel_rfl) (fun _ _ _ h => h) (.inr ⟨by rfl, rfl⟩) hS0 ?_
        (simp only [List.setIfInBounds_toArray, List.set_cons_zero, List.set_cons_succ])
        refine anyH_take 6 50 undef rfl rfl (by kernel_rfl) (by kernel_rfl) (by kernel_rfl) (fun _ _ _ h => h) (.inr ⟨by rfl, rfl⟩) hS0 ?_
        (simp only [List.setIfInBounds_toArray, List.set_cons_zero, List.set_cons_succ])
        refine anyH_take 7 51 undef rfl rfl (by kernel_rfl) (by kernel_rfl) (by kernel_rfl) (fun _ _ _ h => h) (.inr ⟨by rfl, rfl⟩) hS0 ?_
        (simp only [List.setIfInBounds_toArray, List.set_cons_zero, List.set_cons_succ])
        refine anyH_take 8 52 undef rfl rfl (by kernel_rfl) (by kernel_rfl) (by kernel_rfl) (fun _ _ _ h => h) (.inr ⟨by rfl, rfl⟩) hS0 ?_
        (simp only [List.setIfInBounds_toArray, List.set_cons_zero, List.set_cons_succ])
        refine anyH_take 9 53 undef rfl rfl (by kernel_rfl) (by kernel_rfl) (by kernel_rfl) (fun _ _ _ h => h) (.inr ⟨by rfl, rfl⟩) hS0 ?_
        (simp only [List.setIfInBounds_toArray, List.set_cons_zero, List.set_cons_succ])
        refine anyH_take 10 54 undef rfl rfl (by kernel_rfl) (by kernel_rfl) (by kernel_rfl) (fun _ _ _ h => h) (.inr ⟨by rfl, rfl⟩) hS0 ?_
        (simp only [List.setIfInBounds_toArray, List.set_cons_zero, List.set_cons_succ])
        refine anyH_take 11 55 (.bool true) rfl rfl (by kernel_rfl) (by kernel_rfl) (by kernel_rfl) (fun _ _ _ h => h) (.inl ⟨by rfl, fun w'' hS => by go_simp⟩) hS0 ?_
        (simp only [List.setIfInBounds_toArray, List.set_cons_zero, List.set_cons_succ])
        refine anyH_take 12 56 (.bool true) rfl rfl (by kernel_rfl) (by kernel_rfl) (by kernel_rfl) (fun _ _ _ h => h) (.inl ⟨by rfl, fun w'' hS => by go_simp⟩) hS0 ?_
        (simp only [List.setIfInBounds_toArray, List.set_cons_zero, List.set_cons_succ])
        refine anyH_take 13 57 undef rfl rfl (by kernel_rfl) (by kernel_rfl) (by kernel_rfl) (fun _ _ _ h => h) (.inr ⟨by rfl, rfl⟩) hS0 ?_
        (simp only [List.setIfInBounds_toArray, List.set_cons_zero, List.set_cons_succ])
        refine anyH_take 14 58 undef rfl rfl (by kernel_rfl) (by kernel_rfl) (by kernel_rfl) (fun _ _ _ h => h) (.inr ⟨by rfl, rfl⟩) hS0 ?_
        (simp only [List.setIfInBounds_toArray, List.set_cons_zero, List.set_cons_succ])
        refine anyH_take 15 59 undef rfl rfl (by kernel_rfl) (by kernel_rfl) (by kernel_rfl) (fun _ _ _ h => h) (.inr ⟨by rfl, rfl⟩) hS0 ?_
        (simp only [List.setIfInBounds_toArray, List.set_cons_zero, List.set_cons_succ])
        refine anyH_take 16 60 undef rfl rfl (by kernel_rfl) (by kernel_rfl) (by kernel_rfl) (fun _ _ _ h => h) (.inr ⟨by rfl, rfl⟩) hS0 ?_
        (simp only [List.setIfInBounds_toArray, List.set_cons_zero, List.set_cons_succ])
        refine anyH_take 17 61 (.bool true) rfl rfl (by kernel_rfl) (by kernel_rfl) (by kernel_rfl) (fun _ _ _ h => h) (.inl ⟨by rfl, fun w'' hS => by go_simp⟩) hS0 ?_
        (simp only [List.setIfInBounds_toArray, List.set_cons_zero, List.set_cons_succ])
        refine anyH_take 18 62 (.bool true) rfl rfl (by kernel_rfl) (by kernel_rfl) (by kernel_rfl) (fun _ _ _ h => h) (.inl ⟨by rfl, fun w'' hS => by go_simp⟩) hS0 ?_
        (simp only [List.setIfInBounds_toArray, List.set_cons_zero, List.set_cons_succ])
        refine anyH_take 19 63 undef rfl rfl (by kernel_rfl) (by kernel_rfl) (by kernel_rfl) (fun _ _ _ h => h) (.inr ⟨by rfl, rfl⟩) hS0 ?_
        (simp only [List.setIfInBounds_toArray, List.set_cons_zero, List.set_cons_succ])
        refine anyH_take 20 64 undef rfl rfl (by kernel_rfl) (by kernel_rfl) (by kernel_rfl) (fun _ _ _ h => h) (.inr ⟨by rfl, rfl⟩) hS0 ?_
        (simp only [List.setIfInBounds_toArray, List.set_cons_zero, List.set_cons_succ])
        refine anyH_take 21 65 undef rfl rfl (by kernel_rfl) (by kernel_rfl) (by kernel_rfl) (fun _ _ _ h => h) (.inr ⟨by rfl, rfl⟩) hS0 ?_
        (simp only [List.setIfInBounds_toArray, List.set_cons_zero, List.set_cons_succ])
        refine anyH_take 22 66 undef rfl rfl (by kernel_rfl) (by kernel_rfl) (by kernel_rfl) (fun _ _ _ h => h) (.inr ⟨by rfl, rfl⟩) hS0 ?_
        (simp only [List.setIfInBounds_toArray, List.set_cons_zero, List.set_cons_succ])
        refine anyH_take 23 67 (.bool true) rfl rfl (by kernel_rfl) (by kernel_rfl) (by kernel_rfl) (fun _ _ _ h => h) (.inl ⟨by rfl, fun w'' hS => by go_simp⟩) hS0 ?_
        (simp only [List.setIfInBounds_toArray, List.set_cons_zero, List.set_cons_succ])
        refine wpAnyH_done (by kernel_rfl) ?_ _
        clear hS0
        go_wp2_with fail
        refine bodyPost_ret (results_tmp2 rfl _ _ _) rfl ?_
        exact ⟨(fun q => by cases q), fun _ => ⟨L, rfl, H6.out.2.1⟩, H6.out.2.2⟩
      · obtain ⟨Ab, cb, rfl, hrb, hbc⟩ := j2 bb hj
        obtain ⟨hb3, hk1, hk2⟩ := join_long HI2.out.2.2.2.2.1 hj
        obtain ⟨tc, htc⟩ : ∃ tc, tc = (tagAt rest).1 := ⟨_, rfl⟩
        obtain ⟨tn, htn⟩ : ∃ tn, tn = (tagAt rest).2 := ⟨_, rfl⟩
        obtain ⟨kk, hkk⟩ : ∃ kk, kk = needN (bb.length : Nat) := ⟨_, rfl⟩
        have hrec : recsFrom c si (f + 1) m ((ss.drop 1).drop (usedOf pre)) = (if tn = m ∧ si ≤ tc ∧ tc ≤ c then
            match recOf bb with
            | none => []
            | some r => (r, kk) :: recsFrom c si f (m + 1) (rest.drop kk)
          else []) := by
          rw [recsFrom, ← HI2.out.2.2.1, hj, htc, htn, hkk]
          rfl
        rw [← htc, ← htn, ← hkk]
        rw [← hkk] at hk1 hk2
        obtain ⟨W6, hW6, hb6, f6, th6⟩ : ∃ W6, W6 = w5.alloc (.cells #[.int .u64 (tc : Nat), .int .i64 (tn : Nat)] 91) ∧ Blk W6 w5.heap.size 91 #[.int .u64 (tc : Nat), .int .i64 (tn : Nat)] ∧ Fr (fun _ => False) w5 W6 ∧ True := ⟨_, rfl, Blk.new w5 _ _, (Fr.refl _ w5).alloc _, trivial⟩
        have g6 := f5.trans f6 (fun _ _ q => q)
        have HE6 := Lib.hid hW6
        have hI6 := HI2.out.1.new g6
        have hbL := HI2.out.2.1.keep g6 (fun q => q)
        have k0 := hbL.cell 0
        have k1 := hbL.cell 1
        have k3 := hbL.cell 3
        have e0 := hb6.cell 0
        have e1 := hb6.cell 1
        simp only [List.getElem?_toArray, List.getElem?_cons_zero, List.getElem?_cons_succ] at k0 k1 k3 e0 e1
        have H6 := Lib.hid (And.intro th6 (And.intro (HF.out.trans g6 (fun _ _ q => q)).drew (And.intro g6 (And.intro (hrb.keep f6.drew (fun _ _ q => q)) (And.intro hbc (And.intro hrec (And.intro hk1 (And.intro hk2 (And.intro hb3 hbL)))))))))
        have hmm : m ≤ 900 := by have h1 := HI2.out.2.2.2.2.2.2.2.2.2; have h2 := HI2.out.2.2.2.2.2.2.2.1; omega
        have HC6 : Hid (∀ w'', Fr (fun _ => False) W6 w'' → w''.cell? ⟨w5.heap.size, 0, none⟩ = some (.int .u64 (tc : Nat)) ∧ w''.cell? ⟨w5.heap.size, 1, none⟩ = some (.int .i64 (tn : Nat)) ∧ w''.cell? ⟨L, 3, none⟩ = some (.slice Av m cv)) := Lib.hid fun w'' f => ⟨(f.cell hb6.lt (fun q => q)).trans e0, (f.cell hb6.lt (fun q => q)).trans e1, (f.cell hbL.lt (fun q => q)).trans k3⟩
        clear e0 e1 k0 k1 k3
        clear hW6 hb6 f6 th6 g6 f5 j1 j2 hj hrb hbc hrec hk1 hk2 hb3 hbL hI6 htc htn hkk
        go_upto_region 6 with fail
        rw [← HE6.out]
        by_cases t1 : tn = m
        · by_cases t2 : si ≤ tc
          · by_cases t3 : tc ≤ c
            · have q1 : ((tn : Int) != (m : Int)) = false := by simp [t1]
              have q2 : ¬ ((tc : Int) < (si : Int)) := by omega
              have q3 : ¬ ((tc : Int) > (c : Int)) := by omega
              have HOF := Lib.hid (fof_any H6.out.2.2.2.1 (by have := H6.out.2.2.2.2.2.2.2.2.1; omega) H6.out.2.2.2.2.1)
              have hrec := H6.out.2.2.2.2.2.1
              rw [if_pos ⟨t1, t2, t3⟩] at hrec
              have HRE := Lib.hid hrec
              clear hrec t2 t3
              (try simp only [Act.put, List.setIfInBounds_toArray, List.set_cons_zero, List.set_cons_succ])
              refine wp_region_held_drew (S := fun w' => Fr (fun _ => False) W6 w') (by kernel_rfl) ((Fr.refl _ _).drew) (fun hS0 => ?_)
              refine anyH_take 0 44 (.bool true) rfl rfl (by kernel_rfl) (by kernel_rfl) (by kernel_rfl) (fun _ _ _ h => h) (.inl ⟨by rfl, fun w'' hS => by go_simp⟩) hS0 ?_
              (simp only [List.setIfInBounds_toArray, List.set_cons_zero, List.set_cons_succ])
              refine anyH_take 1 45 (.bool false) rfl rfl (by kernel_rfl) (by kernel_rfl) (by kernel_rfl) (fun _ _ _ h => h) (.inl ⟨by rfl, fun w'' hS => by go_simp⟩) hS0 ?_
              (simp only [List.setIfInBounds_toArray, List.set_cons_zero, List.set_cons_succ])
              refine anyH_take 2 46 (.bool false) rfl rfl (by kernel_rfl) (by kernel_rfl) (by kernel_rfl) (fun _ _ _ h => h) (.inl ⟨by rfl, fun w'' hS => by go_simp⟩) hS0 ?_
              (simp only [List.setIfInBounds_toArray, List.set_cons_zero, List.set_cons_succ])
              refine anyH_take 3 47 (.pointer (some ⟨w5.heap.size, 1, none⟩)) rfl rfl (by kernel_rfl) (by kernel_rfl) (by kernel_rfl) (fun _ _ _ h => h) (.inl ⟨by rfl, fun w'' hS => by go_simp⟩) hS0 ?_
              (simp only [List.setIfInBounds_toArray, List.set_cons_zero, List.set_cons_succ])
              refine anyH_take 4 48 (.int .i64 (tn : Nat)) rfl rfl (by kernel_rfl) (by kernel_rfl) (by kernel_rfl) (fun _ _ _ h => h) (.inl ⟨by rfl, fun w'' hS => by have q0 := (HC6.out w'' hS).2.1; go_simp⟩) hS0 ?_
              (simp only [List.setIfInBounds_toArray, List.set_cons_zero, List.set_cons_succ])
              refine anyH_take 5 49 (.pointer (some ⟨L, 0, none⟩)) rfl rfl (by kernel_rfl) (by kernel_rfl) (by kernel_rfl) (fun _ _ _ h => h) (.inl ⟨by rfl, fun w'' hS => by go_simp⟩) hS0 ?_
              (simp only [List.setIfInBounds_toArray, List.set_cons_zero, List.set_cons_succ])
              refine anyH_take 6 50 (.pointer (some ⟨L, 0, none⟩)) rfl rfl (by kernel_rfl) (by kernel_rfl) (by kernel_rfl) (fun _ _ _ h => h) (.inl ⟨by rfl, fun w'' hS => by go_simp⟩) hS0 ?_
              (simp only [List.setIfInBounds_toArray, List.set_cons_zero, List.set_cons_succ])
              refine anyH_take 7 51 (.pointer (some ⟨L, 3, none⟩)) rfl rfl (by kernel_rfl) (by kernel_rfl) (by kernel_rfl) (fun _ _ _ h => h) (.inl ⟨by rfl, fun w'' hS => by go_simp⟩) hS0 ?_
              (simp only [List.setIfInBounds_toArray, List.set_cons_zero, List.set_cons_succ])
              refine anyH_take 8 52 (.slice Av m cv) rfl rfl (by kernel_rfl) (by kernel_rfl) (by kernel_rfl) (fun _ _ _ h => h) (.inl ⟨by rfl, fun w'' hS => by have q0 := (HC6.out w'' hS).2.2; go_simp⟩) hS0 ?_
              (simp only [List.setIfInBounds_toArray, List.set_cons_zero, List.set_cons_succ])
              refine anyH_take 9 53 (.int .i64 (m : Nat)) rfl rfl (by kernel_rfl) (by kernel_rfl) (by kernel_rfl) (fun _ _ _ h => h) (.inl ⟨by rfl, fun w'' hS => by go_simp⟩) hS0 ?_
              (simp only [List.setIfInBounds_toArray, List.set_cons_zero, List.set_cons_succ])
              refine anyH_take 10 54 (.bool false) rfl rfl (by kernel_rfl) (by kernel_rfl) (by kernel_rfl) (fun _ _ _ h => h) (.inl ⟨by rfl, fun w'' hS => by go_simp⟩) hS0 ?_
              (simp only [List.setIfInBounds_toArray, List.set_cons_zero, List.set_cons_succ])
              refine anyH_take 11 55 (.bool false) rfl rfl (by kernel_rfl) (by kernel_rfl) (by kernel_rfl) (fun _ _ _ h => h) (.inl ⟨by rfl, fun w'' hS => by go_simp⟩) hS0 ?_
              (simp only [List.setIfInBounds_toArray, List.set_cons_zero, List.set_cons_succ])
              refine anyH_take 12 56 (.bool false) rfl rfl (by kernel_rfl) (by kernel_rfl) (by kernel_rfl) (fun _ _ _ h => h) (.inl ⟨by rfl, fun w'' hS => by go_simp⟩) hS0 ?_
              (simp only [List.setIfInBounds_toArray, List.set_cons_zero, List.set_cons_succ])
              refine anyH_take 13 57 (.pointer (some ⟨w5.heap.size, 0, none⟩)) rfl rfl (by kernel_rfl) (by kernel_rfl) (by kernel_rfl) (fun _ _ _ h => h) (.inl ⟨by rfl, fun w'' hS => by go_simp⟩) hS0 ?_
              (simp only [List.setIfInBounds_toArray, List.set_cons_zero, List.set_cons_succ])
              refine anyH_take 14 58 (.int .u64 (tc : Nat)) rfl rfl (by kernel_rfl) (by kernel_rfl) (by kernel_rfl) (fun _ _ _ h => h) (.inl ⟨by rfl, fun w'' hS => by have q0 := (HC6.out w'' hS).1; go_simp⟩) hS0 ?_
              (simp only [List.setIfInBounds_toArray, List.set_cons_zero, List.set_cons_succ])
              refine anyH_take 15 59 (.int .u64 (si : Nat)) rfl rfl (by kernel_rfl) (by kernel_rfl) (by kernel_rfl) (fun _ _ _ h => h) (.inl ⟨by rfl, fun w'' hS => by go_simp⟩) hS0 ?_
              (simp only [List.setIfInBounds_toArray, List.set_cons_zero, List.set_cons_succ])
              refine anyH_take 16 60 (.bool false) rfl rfl (by kernel_rfl) (by kernel_rfl) (by kernel_rfl) (fun _ _ _ h => h) (.inl ⟨by rfl, fun w'' hS => by go_simp⟩) hS0 ?_
              (simp only [List.setIfInBounds_toArray, List.set_cons_zero, List.set_cons_succ])
              refine anyH_take 17 61 (.bool false) rfl rfl (by kernel_rfl) (by kernel_rfl) (by kernel_rfl) (fun _ _ _ h => h) (.inl ⟨by rfl, fun w'' hS => by go_simp⟩) hS0 ?_
              (simp only [List.setIfInBounds_toArray, List.set_cons_zero, List.set_cons_succ])
              refine anyH_take 18 62 (.bool false) rfl rfl (by kernel_rfl) (by kernel_rfl) (by kernel_rfl) (fun _ _ _ h => h) (.inl ⟨by rfl, fun w'' hS => by go_simp⟩) hS0 ?_
              (simp only [List.setIfInBounds_toArray, List.set_cons_zero, List.set_cons_succ])
              refine anyH_take 19 63 (.pointer (some ⟨w5.heap.size, 0, none⟩)) rfl rfl (by kernel_rfl) (by kernel_rfl) (by kernel_rfl) (fun _ _ _ h => h) (.inl ⟨by rfl, fun w'' hS => by go_simp⟩) hS0 ?_
              (simp only [List.setIfInBounds_toArray, List.set_cons_zero, List.set_cons_succ])
              refine anyH_take 20 64 (.int .u64 (tc : Nat)) rfl rfl (by kernel_rfl) (by kernel_rfl) (by kernel_rfl) (fun _ _ _ h => h) (.inl ⟨by rfl, fun w'' hS => by have q0 := (HC6.out w'' hS).1; go_simp⟩) hS0 ?_
              (simp only [List.setIfInBounds_toArray, List.set_cons_zero, List.set_cons_succ])
              refine anyH_take 21 65 (.int .u64 (c : Nat)) rfl rfl (by kernel_rfl) (by kernel_rfl) (by kernel_rfl) (fun _ _ _ h => h) (.inl ⟨by rfl, fun w'' hS => by go_simp⟩) hS0 ?_
              (simp only [List.setIfInBounds_toArray, List.set_cons_zero, List.set_cons_succ])
              refine anyH_take 22 66 (.bool false) rfl rfl (by kernel_rfl) (by kernel_rfl) (by kernel_rfl) (fun _ _ _ h => h) (.inl ⟨by rfl, fun w'' hS => by go_simp⟩) hS0 ?_
              (simp only [List.setIfInBounds_toArray, List.set_cons_zero, List.set_cons_succ])
              refine anyH_take 23 67 (.bool false) rfl rfl (by kernel_rfl) (by kernel_rfl) (by kernel_rfl) (fun _ _ _ h => h) (.inl ⟨by rfl, fun w'' hS => by go_simp⟩) hS0 ?_
              (simp only [List.setIfInBounds_toArray, List.set_cons_zero, List.set_cons_succ])
              refine wpAnyH_done (by kernel_rfl) ?_ _
              clear hS0
              go_wp2_with fail
              refine HOF.out.mono ?_
              rintro e w7 ⟨o1, o2, f7⟩
              clear HOF
              have g7 : Fr (fun _ => False) wr w7 := (H6.out.2.2.1.drew).trans f7 (fun _ _ q => q)
              rcases ho : recOf bb with _ | r
              · obtain rfl := o1 ho
                have hstop : recsFrom c si (f + 1) pre.length ((ss.drop 1).drop (usedOf pre)) = [] := by rw [← HI2.out.2.2.2.2.2.2.2.1, HRE.out, ho]
                have H7 := Lib.hid (And.intro (HI2.out.1.stop g7 hstop) (HF.out.trans g7 (fun _ _ q => q)))
                clear hstop g7 o1 o2 f7 ho HRE
                go_wp2_with fail
                refine bodyPost_ret (results_tmp2 rfl _ _ _) rfl ?_
                exact ⟨(fun q => by cases q), fun _ => ⟨L, rfl, H7.out.1⟩, H7.out.2⟩
              · obtain ⟨v7, rfl, hv7⟩ := o2 r ho
                obtain ⟨A7, c7, rfl, _, _⟩ := own_slice hv7
                have hI7 := HI2.out.1.new g7
                have hr5 := recOf_512 ho
                obtain ⟨l7, hl7⟩ : ∃ l7, l7 = r.length := ⟨_, rfl⟩
                rw [← hl7] at hv7 ⊢
                have hrv7 : RcV w7 (.slice A7 l7 c7) r := rcV_of_own (by rw [← hl7]; exact hv7) hr5
                have hub7 : ∀ b, (Value.slice A7 l7 c7).ownBlock = some b → w.heap.size ≤ b ∧ ∃ cs, Blk w7 b 120 cs := fun b hb => by
                  have h1 := own_low hv7 hb
                  have h2 := (HF.out.trans H6.out.2.2.1 (fun _ _ q => q)).size
                  rcases hv7.2 with ⟨q, _⟩ | ⟨g, cp, cs, q, _, hg, _⟩
                  · rw [q] at hb
                    cases hb
                  · have h3 : (Value.slice A7 l7 c7).ownBlock = some g := by rw [q]; rfl
                    rw [hb] at h3
                    injection h3 with h3
                    subst h3
                    exact ⟨by have h4 : W6.heap.size ≤ b := h1; omega, cs, hg⟩
                obtain ⟨v8, w8, hrun8, hk8, f8⟩ := hI7.rk.push hrv7 hub7 (by rw [List.length_map]; have h1 := hI7.pl; have h2 := HI2.out.2.2.2.2.2.2.1; omega) (HF.out.trans g7 (fun _ _ q => q)).size 29
                obtain ⟨A8, c8, hv8, _⟩ := hk8.form
                generalize (List.map (fun x => x.1) pre ++ [r]).length = l8 at hv8
                subst hv8
                have hb8 := hI7.blk.keep f8 (fun q => hI7.rk.ne hI7.blk q)
                rw [← HI2.out.2.2.2.2.2.2.1] at hb8
                have hb9 := hb8.set_ 3 (.slice A8 l8 c8)
                have hb9' : Blk (w8.setCell ⟨L, 3, none⟩ (.slice A8 l8 c8)) L 43 (rlC c si ((n : Int) - 1) a0 (.slice A8 l8 c8)) := hb9
                have hb10 := hb9'.set_ 4 (.int .i64 ((a0 : Int) + (kk : Int)))
                have hb10' : Blk ((w8.setCell ⟨L, 3, none⟩ (.slice A8 l8 c8)).setCell ⟨L, 4, none⟩ (.int .i64 ((a0 : Int) + (kk : Int)))) L 43 (rlC c si ((n : Int) - 1) (a0 + kk) (.slice A8 l8 c8)) := hb10
                have fs : Fr (fun b => b = L) w8 ((w8.setCell ⟨L, 3, none⟩ (.slice A8 l8 c8)).setCell ⟨L, 4, none⟩ (.int .i64 ((a0 : Int) + (kk : Int)))) := ((Fr.refl (fun b => b = L) w8).setCell (p := ⟨L, 3, none⟩) (.inl rfl) (.slice A8 l8 c8)).setCell (p := ⟨L, 4, none⟩) (.inl rfl) _
                have hk10 := hk8.set hb8 fs
                have hkk9 : kk ≤ 900 := by have h1 := H6.out.2.2.2.2.2.2.2.1; have h2 := HI2.out.2.2.2.1; omega
                have hfin : Fr (fun _ => False) w ((w8.setCell ⟨L, 3, none⟩ (.slice A8 l8 c8)).setCell ⟨L, 4, none⟩ (.int .i64 ((a0 : Int) + (kk : Int)))) := ((HF.out.trans g7 (fun _ _ q => q)).trans f8 (fun i hi q => by
                  obtain ⟨vs9, ho9, _⟩ := hI7.rk
                  have := own_low ho9 q
                  omega)).trans fs (fun i hi q => by have := hI7.low; omega)
                have hS : SayI ((w8.setCell ⟨L, 3, none⟩ (.slice A8 l8 c8)).setCell ⟨L, 4, none⟩ (.int .i64 ((a0 : Int) + (kk : Int)))) w.heap.size L c si ((n : Int) - 1) (ss.drop 1) rs f (pre ++ [(r, kk)]) (.slice A8 l8 c8) := by
                  have e1 : usedOf (pre ++ [(r, kk)]) = a0 + kk := by rw [usedOf_snoc, ← HI2.out.2.2.2.2.2.2.1]
                  have hkr := H6.out.2.2.2.2.2.2.2.1
                  have hrl := HI2.out.2.2.2.1
                  have hbd := HLL.out.2
                  refine ⟨by rw [e1]; exact hb10', ?_, by rw [e1]; have h1 := hI7.lt; have h2 := H6.out.2.2.2.2.2.2.1; have h3 := HI2.out.2.2.2.2.2.2.1; omega, by rw [e1, hbd]; omega, by rw [e1, List.length_append]; have h1 := hI7.pl; have h2 := H6.out.2.2.2.2.2.2.1; have h3 := HI2.out.2.2.2.2.2.2.1; simp; omega, hI7.low, by rw [List.map_append]; exact hk10⟩
                  have h1 := hI7.eq
                  rw [← HI2.out.2.2.2.2.2.2.2.1, HRE.out, ho] at h1
                  rw [← h1, e1, List.append_assoc, List.length_append, ← HI2.out.2.2.2.2.2.2.2.1]
                  have h2 : rest.drop kk = (ss.drop 1).drop (a0 + kk) := by rw [HI2.out.2.2.1, List.drop_drop, ← HI2.out.2.2.2.2.2.2.1]
                  rw [h2]
                  rfl
                have k3 := hI7.blk.cell 3
                have j3 := hb8.cell 3
                have j4 := hb9'.cell 4
                have z3 := hb8.frozen 3
                have y4 := hb8.cell 4
                have x4 := hb8.frozen 4
                have z4 := hb9'.frozen 4
                simp only [List.getElem?_toArray, List.getElem?_cons_zero, List.getElem?_cons_succ] at k3 j3 j4 y4
                have HRUN := Lib.hid hrun8
                have H8 := Lib.hid (And.intro hS hfin)
                clear hrun8 hk8 f8 hb8 hb9 hb9' hb10 hb10' fs hk10 hfin hS hI7 hrv7 hub7 hv7 hr5 hl7 g7 o1 o2 f7 ho HRE
                go_wp2_with (first
                  | (refine wpList_one_rec rfl (.tmp 82) rfl rfl ?_)
                  | (at_builtin; refine wpList_push_rec rfl (.tmp 81) (.tmp 83) rfl rfl rfl HRUN.out rfl ?_))
                go_roundg f
                case measure => omega
                case rel => exact ⟨Lib.hid ⟨_, _, H8.out.1⟩, Lib.hid H8.out.2⟩
            · have hstop : recsFrom c si (f + 1) pre.length ((ss.drop 1).drop (usedOf pre)) = [] := by rw [← HI2.out.2.2.2.2.2.2.2.1, H6.out.2.2.2.2.2.1, if_neg (fun q => t3 q.2.2)]
              have n2 : ¬ tc < si := by omega
              have n3 : c < tc := by omega
              have H7 := Lib.hid (HI2.out.1.stop H6.out.2.2.1.drew hstop)
              clear hstop
              (try simp only [Act.put, List.setIfInBounds_toArray, List.set_cons_zero, List.set_cons_succ])
              refine wp_region_held_drew (S := fun w' => Fr (fun _ => False) W6 w') (by kernel_rfl) ((Fr.refl _ _).drew) (fun hS0 => ?_)
              refine anyH_take 0 44 (.bool true) rfl rfl (by kernel_rfl) (by kernel_rfl) (by kernel_rfl) (fun _ _ _ h => h) (.inl ⟨by rfl, fun w'' hS => by go_simp⟩) hS0 ?_
              (simp only [List.setIfInBounds_toArray, List.set_cons_zero, List.set_cons_succ])
              refine anyH_take 1 45 (.bool false) rfl rfl (by kernel_rfl) (by kernel_rfl) (by kernel_rfl) (fun _ _ _ h => h) (.inl ⟨by rfl, fun w'' hS => by go_simp⟩) hS0 ?_
              (simp only [List.setIfInBounds_toArray, List.set_cons_zero, List.set_cons_succ])
              refine anyH_take 2 46 (.bool false) rfl rfl (by kernel_rfl) (by kernel_rfl) (by kernel_rfl) (fun _ _ _ h => h) (.inl ⟨by rfl, fun w'' hS => by go_simp⟩) hS0 ?_
              (simp only [List.setIfInBounds_toArray, List.set_cons_zero, List.set_cons_succ])
              refine anyH_take 3 47 (.pointer (some ⟨w5.heap.size, 1, none⟩)) rfl rfl (by kernel_rfl) (by kernel_rfl) (by kernel_rfl) (fun _ _ _ h => h) (.inl ⟨by rfl, fun w'' hS => by go_simp⟩) hS0 ?_
              (simp only [List.setIfInBounds_toArray, List.set_cons_zero, List.set_cons_succ])
              refine anyH_take 4 48 (.int .i64 (tn : Nat)) rfl rfl (by kernel_rfl) (by kernel_rfl) (by kernel_rfl) (fun _ _ _ h => h) (.inl ⟨by rfl, fun w'' hS => by have q0 := (HC6.out w'' hS).2.1; go_simp⟩) hS0 ?_
              (simp only [List.setIfInBounds_toArray, List.set_cons_zero, List.set_cons_succ])
              refine anyH_take 5 49 (.pointer (some ⟨L, 0, none⟩)) rfl rfl (by kernel_rfl) (by kernel_rfl) (by kernel_rfl) (fun _ _ _ h => h) (.inl ⟨by rfl, fun w'' hS => by go_simp⟩) hS0 ?_
              (simp only [List.setIfInBounds_toArray, List.set_cons_zero, List.set_cons_succ])
              refine anyH_take 6 50 (.pointer (some ⟨L, 0, none⟩)) rfl rfl (by kernel_rfl) (by kernel_rfl) (by kernel_rfl) (fun _ _ _ h => h) (.inl ⟨by rfl, fun w'' hS => by go_simp⟩) hS0 ?_
              (simp only [List.setIfInBounds_toArray, List.set_cons_zero, List.set_cons_succ])
              refine anyH_take 7 51 (.pointer (some ⟨L, 3, none⟩)) rfl rfl (by kernel_rfl) (by kernel_rfl) (by kernel_rfl) (fun _ _ _ h => h) (.inl ⟨by rfl, fun w'' hS => by go_simp⟩) hS0 ?_
              (simp only [List.setIfInBounds_toArray, List.set_cons_zero, List.set_cons_succ])
              refine anyH_take 8 52 (.slice Av m cv) rfl rfl (by kernel_rfl) (by kernel_rfl) (by kernel_rfl) (fun _ _ _ h => h) (.inl ⟨by rfl, fun w'' hS => by have q0 := (HC6.out w'' hS).2.2; go_simp⟩) hS0 ?_
              (simp only [List.setIfInBounds_toArray, List.set_cons_zero, List.set_cons_succ])
              refine anyH_take 9 53 (.int .i64 (m : Nat)) rfl rfl (by kernel_rfl) (by kernel_rfl) (by kernel_rfl) (fun _ _ _ h => h) (.inl ⟨by rfl, fun w'' hS => by go_simp⟩) hS0 ?_
              (simp only [List.setIfInBounds_toArray, List.set_cons_zero, List.set_cons_succ])
              refine anyH_take 10 54 (.bool false) rfl rfl (by kernel_rfl) (by kernel_rfl) (by kernel_rfl) (fun _ _ _ h => h) (.inl ⟨by rfl, fun w'' hS => by go_simp⟩) hS0 ?_
              (simp only [List.setIfInBounds_toArray, List.set_cons_zero, List.set_cons_succ])
              refine anyH_take 11 55 (.bool false) rfl rfl (by kernel_rfl) (by kernel_rfl) (by kernel_rfl) (fun _ _ _ h => h) (.inl ⟨by rfl, fun w'' hS => by go_simp⟩) hS0 ?_
              (simp only [List.setIfInBounds_toArray, List.set_cons_zero, List.set_cons_succ])
              refine anyH_take 12 56 (.bool false) rfl rfl (by kernel_rfl) (by kernel_rfl) (by kernel_rfl) (fun _ _ _ h => h) (.inl ⟨by rfl, fun w'' hS => by go_simp⟩) hS0 ?_
              (simp only [List.setIfInBounds_toArray, List.set_cons_zero, List.set_cons_succ])
              refine anyH_take 13 57 (.pointer (some ⟨w5.heap.size, 0, none⟩)) rfl rfl (by kernel_rfl) (by kernel_rfl) (by kernel_rfl) (fun _ _ _ h => h) (.inl ⟨by rfl, fun w'' hS => by go_simp⟩) hS0 ?_
              (simp only [List.setIfInBounds_toArray, List.set_cons_zero, List.set_cons_succ])
              refine anyH_take 14 58 (.int .u64 (tc : Nat)) rfl rfl (by kernel_rfl) (by kernel_rfl) (by kernel_rfl) (fun _ _ _ h => h) (.inl ⟨by rfl, fun w'' hS => by have q0 := (HC6.out w'' hS).1; go_simp⟩) hS0 ?_
              (simp only [List.setIfInBounds_toArray, List.set_cons_zero, List.set_cons_succ])
              refine anyH_take 15 59 (.int .u64 (si : Nat)) rfl rfl (by kernel_rfl) (by kernel_rfl) (by kernel_rfl) (fun _ _ _ h => h) (.inl ⟨by rfl, fun w'' hS => by go_simp⟩) hS0 ?_
              (simp only [List.setIfInBounds_toArray, List.set_cons_zero, List.set_cons_succ])
              refine anyH_take 16 60 (.bool false) rfl rfl (by kernel_rfl) (by kernel_rfl) (by kernel_rfl) (fun _ _ _ h => h) (.inl ⟨by rfl, fun w'' hS => by go_simp⟩) hS0 ?_
              (simp only [List.setIfInBounds_toArray, List.set_cons_zero, List.set_cons_succ])
              refine anyH_take 17 61 (.bool false) rfl rfl (by kernel_rfl) (by kernel_rfl) (by kernel_rfl) (fun _ _ _ h => h) (.inl ⟨by rfl, fun w'' hS => by go_simp⟩) hS0 ?_
              (simp only [List.setIfInBounds_toArray, List.set_cons_zero, List.set_cons_succ])
              refine anyH_take 18 62 (.bool false) rfl rfl (by kernel_rfl) (by kernel_rfl) (by kernel_rfl) (fun _ _ _ h => h) (.inl ⟨by rfl, fun w'' hS => by go_simp⟩) hS0 ?_
              (simp only [List.setIfInBounds_toArray, List.set_cons_zero, List.set_cons_succ])
              refine anyH_take 19 63 (.pointer (some ⟨w5.heap.size, 0, none⟩)) rfl rfl (by kernel_rfl) (by kernel_rfl) (by kernel_rfl) (fun _ _ _ h => h) (.inl ⟨by rfl, fun w'' hS => by go_simp⟩) hS0 ?_
              (simp only [List.setIfInBounds_toArray, List.set_cons_zero, List.set_cons_succ])
              refine anyH_take 20 64 (.int .u64 (tc : Nat)) rfl rfl (by kernel_rfl) (by kernel_rfl) (by kernel_rfl) (fun _ _ _ h => h) (.inl ⟨by rfl, fun w'' hS => by have q0 := (HC6.out w'' hS).1; go_simp⟩) hS0 ?_
              (simp only [List.setIfInBounds_toArray, List.set_cons_zero, List.set_cons_succ])
              refine anyH_take 21 65 (.int .u64 (c : Nat)) rfl rfl (by kernel_rfl) (by kernel_rfl) (by kernel_rfl) (fun _ _ _ h => h) (.inl ⟨by rfl, fun w'' hS => by go_simp⟩) hS0 ?_
              (simp only [List.setIfInBounds_toArray, List.set_cons_zero, List.set_cons_succ])
              refine anyH_take 22 66 (.bool true) rfl rfl (by kernel_rfl) (by kernel_rfl) (by kernel_rfl) (fun _ _ _ h => h) (.inl ⟨by rfl, fun w'' hS => by go_simp⟩) hS0 ?_
              (simp only [List.setIfInBounds_toArray, List.set_cons_zero, List.set_cons_succ])
              refine anyH_take 23 67 (.bool true) rfl rfl (by kernel_rfl) (by kernel_rfl) (by kernel_rfl) (fun _ _ _ h => h) (.inl ⟨by rfl, fun w'' hS => by go_simp⟩) hS0 ?_
              (simp only [List.setIfInBounds_toArray, List.set_cons_zero, List.set_cons_succ])
              refine wpAnyH_done (by kernel_rfl) ?_ _
              clear hS0
              go_wp2_with fail
              refine bodyPost_ret (results_tmp2 rfl _ _ _) rfl ?_
              exact ⟨(fun q => by cases q), fun _ => ⟨L, rfl, H7.out⟩, H6.out.2.1⟩
          · have hstop : recsFrom c si (f + 1) pre.length ((ss.drop 1).drop (usedOf pre)) = [] := by rw [← HI2.out.2.2.2.2.2.2.2.1, H6.out.2.2.2.2.2.1, if_neg (fun q => t2 q.2.1)]
            have n2 : tc < si := by omega
            have H7 := Lib.hid (HI2.out.1.stop H6.out.2.2.1.drew hstop)
            clear hstop
            (try simp only [Act.put, List.setIfInBounds_toArray, List.set_cons_zero, List.set_cons_succ])
            refine wp_region_held_drew (S := fun w' => Fr (fun _ => False) W6 w') (by kernel_rfl) ((Fr.refl _ _).drew) (fun hS0 => ?_)
            refine anyH_take 0 44 (.bool true) rfl rfl (by kernel_rfl) (by kernel_rfl) (by kernel_rfl) (fun _ _ _ h => h) (.inl ⟨by rfl, fun w'' hS => by go_simp⟩) hS0 ?_
            (simp only [List.setIfInBounds_toArray, List.set_cons_zero, List.set_cons_succ])
            refine anyH_take 1 45 (.bool false) rfl rfl (by kernel_rfl) (by kernel_rfl) (by kernel_rfl) (fun _ _ _ h => h) (.inl ⟨by rfl, fun w'' hS => by go_simp⟩) hS0 ?_
            (simp only [List.setIfInBounds_toArray, List.set_cons_zero, List.set_cons_succ])
            refine anyH_take 2 46 (.bool false) rfl rfl (by kernel_rfl) (by kernel_rfl) (by kernel_rfl) (fun _ _ _ h => h) (.inl ⟨by rfl, fun w'' hS => by go_simp⟩) hS0 ?_
            (simp only [List.setIfInBounds_toArray, List.set_cons_zero, List.set_cons_succ])
            refine anyH_take 3 47 (.pointer (some ⟨w5.heap.size, 1, none⟩)) rfl rfl (by kernel_rfl) (by kernel_rfl) (by kernel_rfl) (fun _ _ _ h => h) (.inl ⟨by rfl, fun w'' hS => by go_simp⟩) hS0 ?_
            (simp only [List.setIfInBounds_toArray, List.set_cons_zero, List.set_cons_succ])
            refine anyH_take 4 48 (.int .i64 (tn : Nat)) rfl rfl (by kernel_rfl) (by kernel_rfl) (by kernel_rfl) (fun _ _ _ h => h) (.inl ⟨by rfl, fun w'' hS => by have q0 := (HC6.out w'' hS).2.1; go_simp⟩) hS0 ?_
            (simp only [List.setIfInBounds_toArray, List.set_cons_zero, List.set_cons_succ])
            refine anyH_take 5 49 (.pointer (some ⟨L, 0, none⟩)) rfl rfl (by kernel_rfl) (by kernel_rfl) (by kernel_rfl) (fun _ _ _ h => h) (.inl ⟨by rfl, fun w'' hS => by go_simp⟩) hS0 ?_
            (simp only [List.setIfInBounds_toArray, List.set_cons_zero, List.set_cons_succ])
            refine anyH_take 6 50 (.pointer (some ⟨L, 0, none⟩)) rfl rfl (by kernel_rfl) (by kernel_rfl) (by kernel_rfl) (fun _ _ _ h => h) (.inl ⟨by rfl, fun w'' hS => by go_simp⟩) hS0 ?_
            (simp only [List.setIfInBounds_toArray, List.set_cons_zero, List.set_cons_succ])
            refine anyH_take 7 51 (.pointer (some ⟨L, 3, none⟩)) rfl rfl (by kernel_rfl) (by kernel_rfl) (by kernel_rfl) (fun _ _ _ h => h) (.inl ⟨by rfl, fun w'' hS => by go_simp⟩) hS0 ?_
            (simp only [List.setIfInBounds_toArray, List.set_cons_zero, List.set_cons_succ])
            refine anyH_take 8 52 (.slice Av m cv) rfl rfl (by kernel_rfl) (by kernel_rfl) (by kernel_rfl) (fun _ _ _ h => h) (.inl ⟨by rfl, fun w'' hS => by have q0 := (HC6.out w'' hS).2.2; go_simp⟩) hS0 ?_
            (simp only [List.setIfInBounds_toArray, List.set_cons_zero, List.set_cons_succ])
            refine anyH_take 9 53 (.int .i64 (m : Nat)) rfl rfl (by kernel_rfl) (by kernel_rfl) (by kernel_rfl) (fun _ _ _ h => h) (.inl ⟨by rfl, fun w'' hS => by go_simp⟩) hS0 ?_
            (simp only [List.setIfInBounds_toArray, List.set_cons_zero, List.set_cons_succ])
            refine anyH_take 10 54 (.bool false) rfl rfl (by kernel_rfl) (by kernel_rfl) (by kernel_rfl) (fun _ _ _ h => h) (.inl ⟨by rfl, fun w'' hS => by go_simp⟩) hS0 ?_
            (simp only [List.setIfInBounds_toArray, List.set_cons_zero, List.set_cons_succ])
            refine anyH_take 11 55 (.bool false) rfl rfl (by kernel_rfl) (by kernel_rfl) (by kernel_rfl) (fun _ _ _ h => h) (.inl ⟨by rfl, fun w'' hS => by go_simp⟩) hS0 ?_
            (simp only [List.setIfInBounds_toArray, List.set_cons_zero, List.set_cons_succ])
            refine anyH_take 12 56 (.bool false) rfl rfl (by kernel_rfl) (by kernel_rfl) (by kernel_rfl) (fun _ _ _ h => h) (.inl ⟨by rfl, fun w'' hS => by go_simp⟩) hS0 ?_
            (simp only [List.setIfInBounds_toArray, List.set_cons_zero, List.set_cons_succ])
            refine anyH_take 13 57 (.pointer (some ⟨w5.heap.size, 0, none⟩)) rfl rfl (by kernel_rfl) (by kernel_rfl) (by kernel_rfl) (fun _ _ _ h => h) (.inl ⟨by rfl, fun w'' hS => by go_simp⟩) hS0 ?_
            (simp only [List.setIfInBounds_toArray, List.set_cons_zero, List.set_cons_succ])
            refine anyH_take 14 58 (.int .u64 (tc : Nat)) rfl rfl (by kernel_rfl) (by kernel_rfl) (by kernel_rfl) (fun _ _ _ h => h) (.inl ⟨by rfl, fun w'' hS => by have q0 := (HC6.out w'' hS).1; go_simp⟩) hS0 ?_
            (simp only [List.setIfInBounds_toArray, List.set_cons_zero, List.set_cons_succ])
            refine anyH_take 15 59 (.int .u64 (si : Nat)) rfl rfl (by kernel_rfl) (by kernel_rfl) (by kernel_rfl) (fun _ _ _ h => h) (.inl ⟨by rfl, fun w'' hS => by go_simp⟩) hS0 ?_
            (simp only [List.setIfInBounds_toArray, List.set_cons_zero, List.set_cons_succ])
            refine anyH_take 16 60 (.bool true) rfl rfl (by kernel_rfl) (by kernel_rfl) (by kernel_rfl) (fun _ _ _ h => h) (.inl ⟨by rfl, fun w'' hS => by go_simp⟩) hS0 ?_
            (simp only [List.setIfInBounds_toArray, List.set_cons_zero, List.set_cons_succ])
            refine anyH_take 17 61 (.bool true) rfl rfl (by kernel_rfl) (by kernel_rfl) (by kernel_rfl) (fun _ _ _ h => h) (.inl ⟨by rfl, fun w'' hS => by go_simp⟩) hS0 ?_
            (simp only [List.setIfInBounds_toArray, List.set_cons_zero, List.set_cons_succ])
            refine anyH_take 18 62 (.bool true) rfl rfl (by kernel_rfl) (by kernel_rfl) (by kernel_rfl) (fun _ _ _ h => h) (.inl ⟨by rfl, fun w'' hS => by go_simp⟩) hS0 ?_
            (simp only [List.setIfInBounds_toArray, List.set_cons_zero, List.set_cons_succ])
            refine anyH_take 19 63 undef rfl rfl (by kernel_rfl) (by kernel_rfl) (by kernel_rfl) (fun _ _ _ h => h) (.inr ⟨by rfl, rfl⟩) hS0 ?_
            (simp only [List.setIfInBounds_toArray, List.set_cons_zero, List.set_cons_succ])
            refine anyH_take 20 64 undef rfl rfl (by kernel_rfl) (by kernel_rfl) (by kernel_rfl) (fun _ _ _ h => h) (.inr ⟨by rfl, rfl⟩) hS0 ?_
            (simp only [List.setIfInBounds_toArray, List.set_cons_zero, List.set_cons_succ])
            refine anyH_take 21 65 undef rfl rfl (by kernel_rfl) (by kernel_rfl) (by kernel_rfl) (fun _ _ _ h => h) (.inr ⟨by rfl, rfl⟩) hS0 ?_
            (simp only [List.setIfInBounds_toArray, List.set_cons_zero, List.set_cons_succ])
            refine anyH_take 22 66 undef rfl rfl (by kernel_rfl) (by kernel_rfl) (by kernel_rfl) (fun _ _ _ h => h) (.inr ⟨by rfl, rfl⟩) hS0 ?_
            (simp only [List.setIfInBounds_toArray, List.set_cons_zero, List.set_cons_succ])
            refine anyH_take 23 67 (.bool true) rfl rfl (by kernel_rfl) (by kernel_rfl) (by kernel_rfl) (fun _ _ _ h => h) (.inl ⟨by rfl, fun w'' hS => by go_simp⟩) hS0 ?_
            (simp only [List.setIfInBounds_toArray, List.set_cons_zero, List.set_cons_succ])
            refine wpAnyH_done (by kernel_rfl) ?_ _
            clear hS0
            go_wp2_with fail
            refine bodyPost_ret (results_tmp2 rfl _ _ _) rfl ?_
            exact ⟨(fun q => by cases q), fun _ => ⟨L, rfl, H7.out⟩, H6.out.2.1⟩
        · have hstop : recsFrom c si (f + 1) pre.length ((ss.drop 1).drop (usedOf pre)) = [] := by rw [← HI2.out.2.2.2.2.2.2.2.1, H6.out.2.2.2.2.2.1, if_neg (fun q => t1 q.1)]
          have q1 : ¬ (tn : Int) = (m : Int) := by omega
          have H7 := Lib.hid (HI2.out.1.stop H6.out.2.2.1.drew hstop)
          clear hstop
          (try simp only [Act.put, List.setIfInBounds_toArray, List.set_cons_zero, List.set_cons_succ])
          refine wp_region_held_drew (S := fun w' => Fr (fun _ => False) W6 w') (by kernel_rfl) ((Fr.refl _ _).drew) (fun hS0 => ?_)
          refine anyH_take 0 44 (.bool true) rfl rfl (by kernel_rfl) (by kernel_rfl) (by kernel_rfl) (fun _ _ _ h => h) (.inl ⟨by rfl, fun w'' hS => by go_simp⟩) hS0 ?_
          (simp only [List.setIfInBounds_toArray, List.set_cons_zero, List.set_cons_succ])
          refine anyH_take 1 45 (.bool false) rfl rfl (by kernel_rfl) (by kernel_rfl) (by kernel_rfl) (fun _ _ _ h => h) (.inl ⟨by rfl, fun w'' hS => by go_simp⟩) hS0 ?_
          (simp only [List.setIfInBounds_toArray, List.set_cons_zero, List.set_cons_succ])
          refine anyH_take 2 46 (.bool false) rfl rfl (by kernel_rfl) (by kernel_rfl) (by kernel_rfl) (fun _ _ _ h => h) (.inl ⟨by rfl, fun w'' hS => by go_simp⟩) hS0 ?_
          (simp only [List.setIfInBounds_toArray, List.set_cons_zero, List.set_cons_succ])
          refine anyH_take 3 47 (.pointer (some ⟨w5.heap.size, 1, none⟩)) rfl rfl (by kernel_rfl) (by kernel_rfl) (by kernel_rfl) (fun _ _ _ h => h) (.inl ⟨by rfl, fun w'' hS => by go_simp⟩) hS0 ?_
          (simp only [List.setIfInBounds_toArray, List.set_cons_zero, List.set_cons_succ])
          refine anyH_take 4 48 (.int .i64 (tn : Nat)) rfl rfl (by kernel_rfl) (by kernel_rfl) (by kernel_rfl) (fun _ _ _ h => h) (.inl ⟨by rfl, fun w'' hS => by have q0 := (HC6.out w'' hS).2.1; go_simp⟩) hS0 ?_
          (simp only [List.setIfInBounds_toArray, List.set_cons_zero, List.set_cons_succ])
          refine anyH_take 5 49 (.pointer (some ⟨L, 0, none⟩)) rfl rfl (by kernel_rfl) (by kernel_rfl) (by kernel_rfl) (fun _ _ _ h => h) (.inl ⟨by rfl, fun w'' hS => by go_simp⟩) hS0 ?_
          (simp only [List.setIfInBounds_toArray, List.set_cons_zero, List.set_cons_succ])
          refine anyH_take 6 50 (.pointer (some ⟨L, 0, none⟩)) rfl rfl (by kernel_rfl) (by kernel_rfl) (by kernel_rfl) (fun _ _ _ h => h) (.inl ⟨by rfl, fun w'' hS => by go_simp⟩) hS0 ?_
          (simp only [List.setIfInBounds_toArray, List.set_cons_zero, List.set_cons_succ])
          refine anyH_take 7 51 (.pointer (some ⟨L, 3, none⟩)) rfl rfl (by kernel_rfl) (by kernel_rfl) (by kernel_rfl) (fun _ _ _ h => h) (.inl ⟨by rfl, fun w'' hS => by go_simp⟩) hS0 ?_
          (simp only [List.setIfInBounds_toArray, List.set_cons_zero, List.set_cons_succ])
          refine anyH_take 8 52 (.slice Av m cv) rfl rfl (by kernel_rfl) (by kernel_rfl) (by kernel_rfl) (fun _ _ _ h => h) (.inl ⟨by rfl, fun w'' hS => by have q0 := (HC6.out w'' hS).2.2; go_simp⟩) hS0 ?_
          (simp only [List.setIfInBounds_toArray, List.set_cons_zero, List.set_cons_succ])
          refine anyH_take 9 53 (.int .i64 (m : Nat)) rfl rfl (by kernel_rfl) (by kernel_rfl) (by kernel_rfl) (fun _ _ _ h => h) (.inl ⟨by rfl, fun w'' hS => by go_simp⟩) hS0 ?_
          (simp only [List.setIfInBounds_toArray, List.set_cons_zero, List.set_cons_succ])
          refine anyH_take 10 54 (.bool true) rfl rfl (by kernel_rfl) (by kernel_rfl) (by kernel_rfl) (fun _ _ _ h => h) (.inl ⟨by rfl, fun w'' hS => by go_simp⟩) hS0 ?_
          (simp only [List.setIfInBounds_toArray, List.set_cons_zero, List.set_cons_succ])
          refine anyH_take 11 55 (.bool true) rfl rfl (by kernel_rfl) (by kernel_rfl) (by kernel_rfl) (fun _ _ _ h => h) (.inl ⟨by rfl, fun w'' hS => by go_simp⟩) hS0 ?_
          (simp only [List.setIfInBounds_toArray, List.set_cons_zero, List.set_cons_succ])
          refine anyH_take 12 56 (.bool true) rfl rfl (by kernel_rfl) (by kernel_rfl) (by kernel_rfl) (fun _ _ _ h => h) (.inl ⟨by rfl, fun w'' hS => by go_simp⟩) hS0 ?_
          (simp only [List.setIfInBounds_toArray, List.set_cons_zero, List.set_cons_succ])
          refine anyH_take 13 57 undef rfl rfl (by kernel_rfl) (by kernel_rfl) (by kernel_rfl) (fun _ _ _ h => h) (.inr ⟨by rfl, rfl⟩) hS0 ?_
          (simp only [List.setIfInBounds_toArray, List.set_cons_zero, List.set_cons_succ])
          refine anyH_take 14 58 undef rfl rfl (by kernel_rfl) (by kernel_rfl) (by kernel_rfl) (fun _ _ _ h => h) (.inr ⟨by rfl, rfl⟩) hS0 ?_
          (simp only [List.setIfInBounds_toArray, List.set_cons_zero, List.set_cons_succ])
          refine anyH_take 15 59 undef rfl rfl (by kernel_rfl) (by kernel_rfl) (by kernel_rfl) (fun _ _ _ h => h) (.inr ⟨by rfl, rfl⟩) hS0 ?_
          (simp only [List.setIfInBounds_toArray, List.set_cons_zero, List.set_cons_succ])
          refine anyH_take 16 60 undef rfl rfl (by kernel_rfl) (by kernel_rfl) (by kernel_rfl) (fun _ _ _ h => h) (.inr ⟨by rfl, rfl⟩) hS0 ?_
          (simp only [List.setIfInBounds_toArray, List.set_cons_zero, List.set_cons_succ])
          refine anyH_take 17 61 (.bool true) rfl rfl (by kernel_rfl) (by kernel_rfl) (by kernel_rfl) (fun _ _ _ h => h) (.inl ⟨by rfl, fun w'' hS => by go_simp⟩) hS0 ?_
          (simp only [List.setIfInBounds_toArray, List.set_cons_zero, List.set_cons_succ])
          refine anyH_take 18 62 (.bool true) rfl rfl (by kernel_rfl) (by kernel_rfl) (by kernel_rfl) (fun _ _ _ h => h) (.inl ⟨by rfl, fun w'' hS => by go_simp⟩) hS0 ?_
          (simp only [List.setIfInBounds_toArray, List.set_cons_zero, List.set_cons_succ])
          refine anyH_take 19 63 undef rfl rfl (by kernel_rfl) (by kernel_rfl) (by kernel_rfl) (fun _ _ _ h => h) (.inr ⟨by rfl, rfl⟩) hS0 ?_
          (simp only [List.setIfInBounds_toArray, List.set_cons_zero, List.set_cons_succ])
          refine anyH_take 20 64 undef rfl rfl (by kernel_rfl) (by kernel_rfl) (by kernel_rfl) (fun _ _ _ h => h) (.inr ⟨by rfl, rfl⟩) hS0 ?_
          (simp only [List.setIfInBounds_toArray, List.set_cons_zero, List.set_cons_succ])
          refine anyH_take 21 65 undef rfl rfl (by kernel_rfl) (by kernel_rfl) (by kernel_rfl) (fun _ _ _ h => h) (.inr ⟨by rfl, rfl⟩) hS0 ?_
          (simp only [List.setIfInBounds_toArray, List.set_cons_zero, List.set_cons_succ])
          refine anyH_take 22 66 undef rfl rfl (by kernel_rfl) (by kernel_rfl) (by kernel_rfl) (fun _ _ _ h => h) (.inr ⟨by rfl, rfl⟩) hS0 ?_
          (simp only [List.setIfInBounds_toArray, List.set_cons_zero, List.set_cons_succ])
          refine anyH_take 23 67 (.bool true) rfl rfl (by kernel_rfl) (by kernel_rfl) (by kernel_rfl) (fun _ _ _ h => h) (.inl ⟨by rfl, fun w'' hS => by go_simp⟩) hS0 ?_
          (simp only [List.setIfInBounds_toArray, List.set_cons_zero, List.set_cons_succ])
          refine wpAnyH_done (by kernel_rfl) ?_ _
          clear hS0
          go_wp2_with fail
          refine bodyPost_ret (results_tmp2 rfl _ _ _) rfl ?_
          exact ⟨(fun q => by cases q), fun _ => ⟨L, rfl, H7.out⟩, H6.out.2.1⟩
theorem rroom_any {w : World} {L c s a z : Nat} {v : Value} (hb : Blk w L 43 (rlC c s (z : Int) a v)) (ha : a ≤ z) (hz : z ≤ 100000) : Calls Tryz.prog 22 #[.pointer (some ⟨L, 0, none⟩)] w fun e w' => e = .returned (.int .i64 ((z - a : Nat) : Int)) ∧ w' = w.drew := by
  have k2 := hb.cell 2
  have k4 := hb.cell 4
  simp only [List.getElem?_toArray, List.getElem?_cons_zero, List.getElem?_cons_succ] at k2 k4
  have hw : (z : Int) - (a : Int) = ((z - a : Nat) : Int) := by omega
  clear hb
  go_enter Tryz.func22, Tryz.ntmps22
  go_wp2_with fail
  go_region; go_wp2_with fail
  go_ret
  exact ⟨rfl, rfl⟩
end Go.Proofs.YtjdbgojnpnlblaaGreat
