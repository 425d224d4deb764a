/- couponlaw05.do: where it begins. -/
import Derived.Test.YtijdbngjnhhheaaPda
import Derived.Deep.CutBlock
namespace Go.Proofs.Ytijdbngjnhhheaa
open Go.RowKit

def actV (a : ActP) (A : Option Addr) (n c : Nat) : Value := .agg #[.int .i64 a.kd, .int .i64 a.sl, .int .i64 a.nx, .slice A n c]
/-- What stands where do has begun: the page, the act, the page to answer; what the page has, the new page, what it shall have. -/
structure Beg (w W : World) (g2 g3 g4 g6 g8 g11 : Nat) (x : PD) (a : ActP) (A : Option Addr) (c : Nat) (A1 : Option Addr) (n1 c1 nb : Nat) (vo : Value) : Prop where
  hn : nb = a.b.length
  hn1 : n1 = x.s.length
  hnc1 : n1 ≤ c1
  h : w.heap.size ≤ g2 ∧ g3 = g2 + 1 ∧ g4 = g2 + 2 ∧ g4 < g6 ∧ g8 = g6 + 1 ∧ g11 = g6 + 2
  p : Blk W g2 26 (cellsB x.bytes).toArray
  a_ : Blk W g3 43 #[.int .i64 a.kd, .int .i64 a.sl, .int .i64 a.nx, .slice A nb c]
  q : Blk W g4 26 (cellsB (nought 512)).toArray
  r : Blk W g6 74 #[.int .i64 x.kind, .int .i64 x.next, .slice A1 n1 c1]
  o : Blk W g8 26 (cellsB (nought 512)).toArray
  v : Blk W g11 74 #[.int .i64 x.kind, .int .i64 x.next, .slice A1 n1 c1]
  own : W.ownsRow (g11 + 1) 5 1 vo (nb + 1) (cellsB (a.b ++ [7]))
  rd : ∀ W', Fr (fun q => g6 < q) W W' → Rd W' A nb a.b
  und : Und g6 (.slice A nb c)
  recs : ∀ W', Fr (fun q => g6 < q) W W' → RecsB (Und g6) W' A1 x.s
  f : ∀ W', Fr (fun q => g6 < q) W W' → Fr (fun _ => False) w W'
/-- What stands behind the switch. -/
def Mid (W : World) (g8 g11 : Nat) (x : PD) (a : ActP) (Lo : List UInt8) (s10 e9 n12 : Int) : Prop :=
  ∃ (kd nx : Int) (A : Option Addr) (n c : Nat) (s : List Rec), Out x a Lo s10 e9 ∧ n12 = no0 x a ∧ n = s.length ∧ s = (x.want a).s ∧ (noOf x a = 0 → kd = (x.want a).kind ∧ nx = (x.want a).next) ∧
    Blk W g8 26 (cellsB Lo).toArray ∧ Blk W g11 74 #[.int .i64 kd, .int .i64 nx, .slice A n c] ∧ n ≤ c ∧ RecsAt W A s
set_option maxRecDepth 100000 in
theorem three_acts (w : World) (L : List UInt8) (v0 v1 v2 v3 : Value) : ∃ X, X = ((w.alloc (.cells (cellsB L).toArray 26)).alloc (.cells #[v0, v1, v2, v3] 43)).alloc (.cells (cellsB (nought 512)).toArray 26) ∧
    Blk X w.heap.size 26 (cellsB L).toArray ∧ Blk X (w.heap.size + 1) 43 #[v0, v1, v2, v3] ∧ Blk X (w.heap.size + 2) 26 (cellsB (nought 512)).toArray ∧ Fr (fun _ => False) w X ∧ X.heap.size = w.heap.size + 3 := by
  obtain ⟨X1, hX1⟩ : ∃ X, X = w.alloc (.cells (cellsB L).toArray 26) := ⟨_, rfl⟩
  obtain ⟨X2, hX2⟩ : ∃ X, X = X1.alloc (.cells #[v0, v1, v2, v3] 43) := ⟨_, rfl⟩
  obtain ⟨X3, hX3⟩ : ∃ X, X = X2.alloc (.cells (cellsB (nought 512)).toArray 26) := ⟨_, rfl⟩
  have z1 : X1.heap.size = w.heap.size + 1 := by rw [hX1]; show (w.heap.push _).size = _; simp
  have z2 : X2.heap.size = w.heap.size + 2 := by rw [hX2]; show (X1.heap.push _).size = _; simp [z1]
  have z3 : X3.heap.size = w.heap.size + 3 := by rw [hX3]; show (X2.heap.push _).size = _; simp [z2]
  have g1 : Fr (fun _ => False) w X1 := by rw [hX1]; exact (Fr.refl _ _).alloc _
  have g2 : Fr (fun _ => False) X1 X2 := by rw [hX2]; exact (Fr.refl _ _).alloc _
  have g3 : Fr (fun _ => False) X2 X3 := by rw [hX3]; exact (Fr.refl _ _).alloc _
  have b1 : Blk X3 w.heap.size 26 (cellsB L).toArray := Blk.keep (w := X1) (by rw [hX1]; exact Blk.new _ _ _) (g2.trans g3 (fun _ _ q => q)) (fun q => q)
  have b2 : Blk X3 (w.heap.size + 1) 43 #[v0, v1, v2, v3] := Blk.keep (w := X2) (by rw [hX2, ← z1]; exact Blk.new _ _ _) g3 (fun q => q)
  have b3 : Blk X3 (w.heap.size + 2) 26 (cellsB (nought 512)).toArray := by rw [hX3, ← z2]; exact Blk.new _ _ _
  exact ⟨X3, by rw [hX3, hX2, hX1], b1, b2, b3, (g1.trans g2 (fun _ _ q => q)).trans g3 (fun _ _ q => q), z3⟩
set_option maxRecDepth 100000 in
theorem three_more (w : World) (v0 v1 v2 : Value) : ∃ X, X = ((w.alloc (.cells #[v0, v1, v2] 74)).alloc (.cells (cellsB (nought 512)).toArray 26)).alloc (.cells #[v0, v1, v2] 74) ∧
    Blk X w.heap.size 74 #[v0, v1, v2] ∧ Blk X (w.heap.size + 1) 26 (cellsB (nought 512)).toArray ∧ Blk X (w.heap.size + 2) 74 #[v0, v1, v2] ∧ Fr (fun _ => False) w X ∧ X.heap.size = w.heap.size + 3 := by
  obtain ⟨X1, hX1⟩ : ∃ X, X = w.alloc (.cells #[v0, v1, v2] 74) := ⟨_, rfl⟩
  obtain ⟨X2, hX2⟩ : ∃ X, X = X1.alloc (.cells (cellsB (nought 512)).toArray 26) := ⟨_, rfl⟩
  obtain ⟨X3, hX3⟩ : ∃ X, X = X2.alloc (.cells #[v0, v1, v2] 74) := ⟨_, rfl⟩
  have z1 : X1.heap.size = w.heap.size + 1 := by rw [hX1]; show (w.heap.push _).size = _; simp
  have z2 : X2.heap.size = w.heap.size + 2 := by rw [hX2]; show (X1.heap.push _).size = _; simp [z1]
  have z3 : X3.heap.size = w.heap.size + 3 := by rw [hX3]; show (X2.heap.push _).size = _; simp [z2]
  have g1 : Fr (fun _ => False) w X1 := by rw [hX1]; exact (Fr.refl _ _).alloc _
  have g2 : Fr (fun _ => False) X1 X2 := by rw [hX2]; exact (Fr.refl _ _).alloc _
  have g3 : Fr (fun _ => False) X2 X3 := by rw [hX3]; exact (Fr.refl _ _).alloc _
  have b1 : Blk X3 w.heap.size 74 #[v0, v1, v2] := Blk.keep (w := X1) (by rw [hX1]; exact Blk.new _ _ _) (g2.trans g3 (fun _ _ q => q)) (fun q => q)
  have b2 : Blk X3 (w.heap.size + 1) 26 (cellsB (nought 512)).toArray := Blk.keep (w := X2) (by rw [hX2, ← z1]; exact Blk.new _ _ _) g3 (fun q => q)
  have b3 : Blk X3 (w.heap.size + 2) 74 #[v0, v1, v2] := by rw [hX3, ← z2]; exact Blk.new _ _ _
  exact ⟨X3, by rw [hX3, hX2, hX1], b1, b2, b3, (g1.trans g2 (fun _ _ q => q)).trans g3 (fun _ _ q => q), z3⟩
set_option maxRecDepth 100000 in
theorem built_zero : Try.prog.built 26 [] = some (cellsB (nought 512)).toArray := by kernel_rfl
set_option maxRecDepth 100000 in
theorem build_zero_op {o : Oper} {a : Act} {w : World} (ho : o.op = .build 26 #[]) : (execOp a.eval o).run Try.prog w = .ok (.value (av (nought 512))) w := by
  have hr : (Instr.build 26 #[]).run Try.prog w = .ok (av (nought 512)) w := run_build w 26 #[] _ built_zero
  unfold execOp
  simp only [ho, Array.map, Sem.run_bind]
  simp [hr, Result.andThen]
set_option maxRecDepth 100000 in
theorem page_is (l : List UInt8) (hl : l.length = 512) (w : World) : (Op.equalIn 10000 26 (.agg (cellsB l).toArray) (.agg (cellsB l).toArray)).run Try.prog w = .ok true w := page_same l hl w
section
variable {ops : Array Oper} {o : Oper} {a : Act} {Q : Exit → Act → World → Prop}
set_option maxRecDepth 100000 in
/-- Bytes put behind nothing; a 7 put behind bytes. -/
theorem wpList_app0 {rest : List Oper} {w : World} (hg : o.guard = none) (x : Operand) (hop : o.op = Op.call { callee := Callee.builtin Builtin.append, args := #[.const (.slice none 0 0), x], argTypes := #[34, 34] })
    {base : Nat} {b : List UInt8} {A : Option Addr} {n c : Nat} (hx : a.eval x = .slice A n c) (hr : Rd w A n b) (hn : n ≤ 1000) (hbase : base ≤ w.heap.size)
    (hK : ∀ v' w', w'.ownsRow base 5 1 v' n (cellsB b) → Fr (fun _ => False) w w' → wpList Try.prog ops Q rest (a.put o.dst v') w') : wpList Try.prog ops Q (o :: rest) a w := by
  obtain ⟨i0, hi, hz0, hz1, hz2⟩ := info_parts infoU8p
  have hl := hr.len
  refine wpList_append_bytes _ hg (.const (.slice none 0 0)) x 34 hop base 5 i0 (.int .u8 0) Try.underlying34 hi hz0 hz1 hz2 rfl (.slice none 0 0) [] b rfl (World.ownsRow_nil _ _ _ _) A n c hx hr (by simp only [List.length_nil]; omega) hbase ?_
  intro v' w' h1 h2 _
  rw [List.nil_append, hl] at h1
  exact hK v' w' h1 ((Fr.refl _ _).grown h2 (fun k hk => by cases hk))
set_option maxRecDepth 100000 in
theorem wpList_app7 {rest : List Oper} {w wA : World} (hg : o.guard = none) (s x : Operand) (hop : o.op = Op.call { callee := Callee.builtin Builtin.append, args := #[s, x], argTypes := #[34, 34] })
    (hw : w = wA.alloc (.cells #[.int .u8 7] 5)) {base n : Nat} {b : List UInt8} {v : Value} (hs : a.eval s = v) (hx : a.eval x = .slice (some ⟨wA.heap.size, 0, none⟩) 1 1) (hown : wA.ownsRow base 5 1 v n (cellsB b)) (hnb : n = b.length) (hn : n ≤ 1000) (hbase : base ≤ wA.heap.size)
    (hK : ∀ v' w', w'.ownsRow base 5 1 v' (n + 1) (cellsB (b ++ [7])) → Fr (fun q => v.ownBlock = some q) wA w' → wpList Try.prog ops Q rest (a.put o.dst v') w') : wpList Try.prog ops Q (o :: rest) a w := by
  obtain ⟨i0, hi, hz0, hz1, hz2⟩ := info_parts infoU8p
  subst hw
  subst hnb
  have f : Fr (fun _ => False) wA (wA.alloc (.cells #[.int .u8 7] 5)) := (Fr.refl _ _).alloc _
  have hb : Blk (wA.alloc (.cells #[.int .u8 7] 5)) wA.heap.size 5 (cellsB [7]).toArray := Blk.new _ _ _
  refine wpList_append_bytes _ hg s x 34 hop base 5 i0 (.int .u8 0) Try.underlying34 hi hz0 hz1 hz2 rfl v b [7] hs (own_keep hown f (fun _ _ q => q)) (some ⟨wA.heap.size, 0, none⟩) 1 1 hx (blk_rd (o := 0) (n := 1) (l := [7]) hb (by simp)) (by omega) (by have := f.size; omega) ?_
  intro v' w' h1 h2 _
  rw [List.length_append, List.length_singleton] at h1
  exact hK v' w' h1 (((Fr.refl _ _).alloc _).grown h2 (fun k hk => .inl hk))
end
section
variable {w : World}
set_option maxRecDepth 100000 in
set_option maxHeartbeats 8000000 in
theorem do_any {x : PD} (k : x.Ok) {a : ActP} {A : Option Addr} {nb c : Nat} (hnb : nb = a.b.length) (hr : Rd w A nb a.b) (hb : nb ≤ 700) (hcc : nb ≤ c) :
    Calls Try.prog 21 #[av x.bytes, actV a A nb c] w fun e w' => e = .returned (.tuple #[av (x.step a).bytes, .bool true]) ∧ (x.step a).Ok ∧ Fr (fun _ => False) w w' := by
  obtain ⟨L, hL⟩ : ∃ L, L = x.bytes := ⟨_, rfl⟩
  have hl : L.length = 512 := by rw [hL]; exact k.len
  have COf : ∀ W, Calls Try.prog 42 #[av x.bytes] W _ := fun W => Of_any k
  rw [← hL] at COf ⊢
  have HOf := Lib.hid COf
  obtain ⟨X, hX, b1, b2, b3, fX, zX⟩ := three_acts w L (.int .i64 a.kd) (.int .i64 a.sl) (.int .i64 a.nx) (.slice A nb c)
  have HB := Lib.hid (And.intro b1 (And.intro b2 (And.intro b3 (And.intro fX zX))))
  have HX := Lib.hid (And.intro k (And.intro hL hr))
  have HXX := Lib.hid hX
  have hup := Try.underlying26
  have hinfo : (Try.prog.info? 26).map (·.size) = some (cellsB L).length := by rw [infoPage, cellsB_len, hl]
  have HLL := Lib.hid hl
  have HPG : Hid (∀ W, Fr (fun _ => False) X W → W.rangeAt w.heap.size 0 (cellsB L)) := Lib.hid fun W f => page_range (HB.out.1.keep f (fun q => q)) HLL.out
  have hrg := Lib.hid (HPG.out X (Fr.refl _ _))
  have hav : actV a A nb c = .agg #[.int .i64 a.kd, .int .i64 a.sl, .int .i64 a.nx, .slice A nb c] := rfl
  rw [hav]
  have HNB := Lib.hid hnb
  clear hL hl COf b1 b2 b3 fX zX k hr hX hav hnb
  go_enter Try.func21, Try.ntmps21
  go_upto_region 1 with (first | (refine wpList_put rfl 26 _ rfl (cellsB L).toArray rfl ?_) | (refine wpList_zero rfl 26 rfl zeroPage ?_))
  (simp only [← HXX.out])
  go_wp2_with (refine wpList_load_want (by rfl) 26 _ rfl w.heap.size 0 rfl (cellsB L) _ hrg.out hup rfl hinfo ?_)
  refine (HOf.out _).mono ?_
  rintro e w1 ⟨A1, n1, c1, rfl, hn1, hnc1, hR1, f1⟩
  have HR1 := Lib.hid (And.intro hn1 (And.intro hnc1 (And.intro hR1 f1)))
  clear hn1 hnc1 hR1 f1 HOf hrg
  go_upto_region 5 with (refine wpList_zero rfl 26 rfl zeroPage ?_)
  obtain ⟨K, hK⟩ : ∃ K, K = w1.heap.size := ⟨_, rfl⟩
  obtain ⟨W4, hW4, k1, k2, k3, f4, z4⟩ := three_more w1 (.int .i64 x.kind) (.int .i64 x.next) (.slice A1 n1 c1)
  rw [← hW4, ← hK]
  rw [← hK] at k1 k2 k3 z4
  have hXK : w.heap.size + 3 ≤ K := by have := HR1.out.2.2.2.size; have := HB.out.2.2.2.2; omega
  have f04 : Fr (fun _ => False) X W4 := HR1.out.2.2.2.trans f4 (fun _ _ q => q)
  have hrb4 : Rd W4 A nb a.b := HX.out.2.2.keep (HB.out.2.2.2.1.trans f04 (fun _ _ q => q)) (fun _ _ q => q)
  have c3 : W4.cell? ⟨w.heap.size + 1, 3, none⟩ = some (.slice A nb c) := ((HB.out.2.1.keep f04 (fun q => q)).cell 3).trans rfl
  have c0 : W4.cell? ⟨w.heap.size + 1, 0, none⟩ = some (.int .i64 a.kd) := ((HB.out.2.1.keep f04 (fun q => q)).cell 0).trans rfl
  have H4 := Lib.hid (And.intro k1 (And.intro k2 (And.intro k3 (And.intro f04 (And.intro z4 hrb4)))))
  have hK4 : K + 3 ≤ W4.heap.size := by omega
  have HKK := Lib.hid hK
  have HW4 := Lib.hid f4
  clear hW4 k1 k2 k3 f4 z4 f04 hrb4 hK
  go_upto_region 6 with (first
    | (refine wpList_app0 rfl (.tmp 21) rfl (base := K + 3) rfl H4.out.2.2.2.2.2 (by omega) hK4 ?_; intro v1 wA hoA hfA; have HA := Lib.hid (And.intro hoA (And.intro hfA (Nat.le_trans hK4 hfA.size))); clear hoA hfA)
    | (refine wpList_app7 rfl (.tmp 22) (.tmp 23) rfl (wA := wA) rfl (base := K + 3) rfl rfl HA.out.1 HNB.out (by omega) HA.out.2.2 ?_; intro v2 wB hoB hfB; have HBB := Lib.hid (And.intro hoB hfB); clear hoB hfB))
  obtain ⟨Ao, co, hvo, hno, -⟩ := own_slice HBB.out.1
  have hBeg : Beg w wB w.heap.size (w.heap.size + 1) (w.heap.size + 1 + 1) K (K + 1) (K + 1 + 1) x a A c A1 n1 c1 nb v2 := by
    have hbase : ∀ q, v1.ownBlock = some q → K + 3 ≤ q := fun q hq => (own_ge HA.out.1 hq).1
    have f4A := HA.out.2.1
    have fB := HBB.out.2
    have k04 := H4.out.2.2.2.1
    have hK := HKK.out
    have toB : ∀ {g : Nat} {t : TypeId} {cs : Array Value}, Blk W4 g t cs → g < K + 3 → Blk wB g t cs := fun h hg => (h.keep f4A (fun q => q)).keep fB (fun e => by have := hbase _ e; omega)
    have fw1 : ∀ W', Fr (fun q => K < q) wB W' → Fr (fun _ => False) w1 W' := fun W' f => ((HW4.out.trans f4A (fun _ _ q => q)).trans fB (fun i hi e => by have := hbase _ e; omega)).trans f (fun i hi e => by omega)
    have fw : ∀ W', Fr (fun q => K < q) wB W' → Fr (fun _ => False) w W' := fun W' f => (HB.out.2.2.2.1.trans HR1.out.2.2.2 (fun _ _ q => q)).trans (fw1 W' f) (fun _ _ q => q)
    exact {
      hn := HNB.out
      hn1 := HR1.out.1
      hnc1 := HR1.out.2.1
      h := ⟨Nat.le_refl _, rfl, rfl, by omega, rfl, rfl⟩
      p := by rw [← HX.out.2.1]; exact toB (HB.out.1.keep k04 (fun q => q)) (by omega)
      a_ := toB (HB.out.2.1.keep k04 (fun q => q)) (by omega)
      q := toB (HB.out.2.2.1.keep k04 (fun q => q)) (by omega)
      r := toB H4.out.1 (by omega)
      o := toB H4.out.2.1 (by omega)
      v := toB H4.out.2.2.1 (by omega)
      own := HBB.out.1
      rd := fun W' f => HX.out.2.2.keep (fw W' f) (fun _ _ q => q)
      und := fun ad n' c' e hn => by
        injection e with e1 e2 e3
        obtain ⟨ad', hA, hl⟩ := HX.out.2.2.lt (by omega)
        rw [e1] at hA
        injection hA with hA
        subst hA
        omega
      recs := fun W' f => HR1.out.2.2.1.und.onB (fw1 W' f) (fun _ _ _ _ _ _ _ q => q) (fun _ _ q => q) (fun u hu ad n c e hn => by have := hu ad n c e hn; omega)
      f := fw }
  have HG := Lib.hid hBeg
  have hkk := HX.out.1
  have hLx := HX.out.2.1
  clear hBeg HBB HA H4 HB HR1 HPG HXX hK4 hXK c3 c0 HX HKK HW4 HNB
  subst hvo
  generalize K + 1 + 1 = g11 at *
  generalize K + 1 = g8 at *
  generalize K = g6 at *
  generalize w.heap.size + 1 + 1 = g4 at *
  generalize w.heap.size + 1 = g3 at *
  generalize w.heap.size = g2 at *
  subst hLx
  have e0 : wB.cell? ⟨g3, 0, none⟩ = some (.int .i64 a.kd) := (HG.out.a_.cell 0).trans rfl
  have HK := Lib.hid hkk
  clear hkk
  go_upto_block 0 with (fail)
  go_cut [9, 10, 12] (fun s9 s10 s12 wx => ∃ (Lo : List UInt8) (z10 e9 n12 : Int), s9 = .int .i64 e9 ∧ s10 = .int .i64 z10 ∧ s12 = .int .i64 n12 ∧ Hid (Mid wx g8 g11 x a Lo z10 e9 n12) ∧ Hid (Fr (fun q => q = g8 ∨ q = g11) wB wx))
  case first =>
    clear e0
    have hg8 : g6 < g8 := by have := HG.out.h; omega
    have hg11 : g6 < g11 := by have := HG.out.h; omega
    have HP : Hid (∀ W, Fr (fun q => g6 < q) wB W → W.rangeAt g2 0 (cellsB x.bytes) ∧ W.cell? ⟨g3, 0, none⟩ = some (.int .i64 a.kd) ∧ W.cell? ⟨g3, 1, none⟩ = some (.int .i64 a.sl) ∧ W.cell? ⟨g3, 2, none⟩ = some (.int .i64 a.nx) ∧ W.rangeAt g6 0 [.int .i64 x.kind, .int .i64 x.next, .slice A1 n1 c1] ∧ W.cell? ⟨g3, 3, none⟩ = some (.slice A nb c)) := Lib.hid fun W f => by
      have hh := HG.out.h
      have hb := HG.out.a_.keep f (by omega)
      have hr := HG.out.r.keep f (by omega)
      refine ⟨page_range (HG.out.p.keep f (by omega)) HLL.out, (hb.cell 0).trans rfl, (hb.cell 1).trans rfl, (hb.cell 2).trans rfl, fun k u hk => ?_, (hb.cell 3).trans rfl⟩
      rw [Nat.zero_add, hr.cell, ← hk]
      simp
    have HOwn : Hid (∀ W, Fr (fun _ => False) wB W → Rd W Ao nb a.b) := Lib.hid fun W f => by
      have hro := Rd.of_own HG.out.own
      have h := (hro.keep f (fun _ _ q => q)).take (k := nb) (by omega)
      rw [List.take_append_of_le_length (by rw [HG.out.hn]; omega), List.take_of_length_le (by rw [HG.out.hn]; omega)] at h
      exact h
    have hsl : ∀ W, (Instr.slice 34 (.slice Ao (nb + 1) co) none (some (.int .i64 (nb : Int))) none).run Try.prog W = .ok (.slice Ao nb co) W := fun W => (slice_to (P := Try.prog) (t := 34) Try.underlying34 (fun w => by go_simp) (Rd.of_own HG.out.own) hno nb (by omega)).1 W
    have hupr := Try.underlying74
    have HSR : Hid (∀ W, Fr (fun q => g6 < q) wB W → RecsAt W A1 x.s) := Lib.hid fun W f => (HG.out.recs W f).at_
    have hs125 := HK.out.many
    by_cases h1 : a.kd = 1
    · have hb1 : (a.kd == 1) = true := by simp [h1]
      obtain ⟨Lo, z10, e9, ho, hC⟩ := lay_all HK.out h1
      have hLo := ho.len
      have HO := Lib.hid ho
      have HC : Hid (∀ W, Fr (fun _ => False) wB W → Calls Try.prog 16 #[av x.bytes, .slice Ao nb co] W fun e w' => e = .returned (.tuple #[av Lo, .int .i64 z10, .int .i64 e9]) ∧ Fr (fun _ => False) W w') := Lib.hid fun W f => hC W Ao nb co HG.out.hn (HOwn.out W f)
      have HFree : Hid (∀ W, Fr (fun q => g6 < q) wB W → Calls Try.prog 44 #[.agg #[.int .i64 x.kind, .int .i64 x.next, .slice A1 n1 c1]] W fun e w' => e = .returned (.int .i64 (firstE x.s)) ∧ Fr (fun _ => False) W w') := Lib.hid fun W f => by
        have h := Free_any (k := (x.kind : Int)) (n := (x.next : Int)) (c := c1) (HSR.out W f) (by rw [← HG.out.hn1]; exact HG.out.hnc1) (by omega)
        rw [← HG.out.hn1] at h
        exact h
      have HWith : Hid (∀ W, Fr (fun q => g6 < q) wB W → _) := Lib.hid fun W f => With_any (kd := (x.kind : Int)) (nx := (x.next : Int)) (c := c1) (HG.out.recs W f) (fun ad n c e => by cases e) (by rw [← HG.out.hn1]; exact HG.out.hnc1) (by omega) (i := firstE x.s) (firstE_le _) HG.out.hn (HG.out.rd W f) HG.out.und
      rw [← HG.out.hn1] at HWith
      have H1 := Lib.hid h1
      clear ho hC h1
      go_upto_region 9 with (fail)
      refine wp_region_held_drew (S := fun w' => Fr (fun q => g6 < q) wB w') (by kernel_rfl) ((Fr.refl _ _).drew) (fun hS0 => ?_)
      refine anyH_take 0 31 (av x.bytes) rfl rfl (by kernel_rfl) (by kernel_rfl) (by kernel_rfl) (fun _ _ _ h => h) (yieldsIf_load_mid (by rfl) _ _ rfl _ _ rfl _ _ (fun w' f => (HP.out w' f).1) hup rfl hinfo) hS0 ?_
      (simp only [List.setIfInBounds_toArray, List.set_cons_zero, List.set_cons_succ])
      refine anyH_take 1 32 (.slice Ao (nb + 1) co) rfl rfl (by kernel_rfl) (by kernel_rfl) (by kernel_rfl) (fun _ _ _ h => h) (.inl ⟨by rfl, fun w'' hS => by go_simp⟩) hS0 ?_
      (simp only [List.setIfInBounds_toArray, List.set_cons_zero, List.set_cons_succ])
      refine anyH_take 2 33 (.pointer (some ⟨g3, 3, none⟩)) rfl rfl (by kernel_rfl) (by kernel_rfl) (by kernel_rfl) (fun _ _ _ h => h) (.inl ⟨by rfl, fun w'' hS => by go_simp⟩) hS0 ?_
      (simp only [List.setIfInBounds_toArray, List.set_cons_zero, List.set_cons_succ])
      refine anyH_take 3 34 (.slice A nb c) rfl rfl (by kernel_rfl) (by kernel_rfl) (by kernel_rfl) (fun _ _ _ h => h) (.inl ⟨by rfl, fun w'' hS => by have q0 := (HP.out w'' hS).2.2.2.2.2; go_simp⟩) hS0 ?_
      (simp only [List.setIfInBounds_toArray, List.set_cons_zero, List.set_cons_succ])
      refine anyH_take 4 35 (.int .i64 (nb : Int)) rfl rfl (by kernel_rfl) (by kernel_rfl) (by kernel_rfl) (fun _ _ _ h => h) (.inl ⟨by rfl, fun w'' hS => by go_simp⟩) hS0 ?_
      (simp only [List.setIfInBounds_toArray, List.set_cons_zero, List.set_cons_succ])
      refine anyH_take 5 36 (.slice Ao nb co) rfl rfl (by kernel_rfl) (by kernel_rfl) (by kernel_rfl) (fun _ _ _ h => h) (.inl ⟨by rfl, fun w'' hS => by have q0 := hsl w''; go_simp⟩) hS0 ?_
      (simp only [List.setIfInBounds_toArray, List.set_cons_zero, List.set_cons_succ])
      refine anyH_enter 6 37 (by kernel_rfl) rfl rfl (by rfl) (by go_simp) ((HC.out _ ((Fr.refl _ _).drew)).mono ?_)
      rintro e wl ⟨rfl, fwl⟩
      have swl := hS0.trans fwl (fun _ _ q => q.elim)
      refine ⟨_, rfl, swl, ?_⟩
      (simp only [List.setIfInBounds_toArray, List.set_cons_zero, List.set_cons_succ])
      refine anyH_take 7 30 (.tuple #[av Lo, .int .i64 z10, .int .i64 e9]) rfl rfl (by kernel_rfl) (by kernel_rfl) (by kernel_rfl) (fun _ _ _ h => h) (.inl ⟨by rfl, fun w'' hS => by go_simp⟩) swl ?_
      (simp only [List.setIfInBounds_toArray, List.set_cons_zero, List.set_cons_succ])
      refine anyH_take 8 38 (av Lo) rfl rfl (by kernel_rfl) (by kernel_rfl) (by kernel_rfl) (fun _ _ _ h => h) (.inl ⟨by rfl, fun w'' hS => by go_simp⟩) swl ?_
      (simp only [List.setIfInBounds_toArray, List.set_cons_zero, List.set_cons_succ])
      refine anyH_take 9 39 (.int .i64 z10) rfl rfl (by kernel_rfl) (by kernel_rfl) (by kernel_rfl) (fun _ _ _ h => h) (.inl ⟨by rfl, fun w'' hS => by go_simp⟩) swl ?_
      (simp only [List.setIfInBounds_toArray, List.set_cons_zero, List.set_cons_succ])
      refine anyH_take 10 40 (.int .i64 e9) rfl rfl (by kernel_rfl) (by kernel_rfl) (by kernel_rfl) (fun _ _ _ h => h) (.inl ⟨by rfl, fun w'' hS => by go_simp⟩) swl ?_
      (simp only [List.setIfInBounds_toArray, List.set_cons_zero, List.set_cons_succ])
      have hb8 := HG.out.o.keep (((Fr.refl (fun _ => False) wB).drew).trans fwl (fun _ _ q => q)) (fun q => q)
      refine anyH_skip 11 _ (by kernel_rfl) rfl rfl (by rfl) (run_store_mid 26 _ _ rfl g8 0 (cellsB Lo).toArray rfl rfl (hb8.there (by simp [cellsB_len, nought_len, hLo])) (by rw [infoPage]; simp [cellsB_len, hLo]) (all_oneCell_toArray (cellsB_one _))) (Fr.setCells (.inl hg8) swl) ?_
      have hbo := hb8.over (o := 0) (m := Lo) (by rw [nought_len]; omega)
      rw [patch_all (by rw [nought_len]; omega)] at hbo
      have hS1 := Fr.setCells (F := fun q => g6 < q) (b := g8) (vs := cellsB Lo) (o := 0) (.inl hg8) swl
      have hS2 := Fr.setCells (F := fun q => q = g8) (b := g8) (vs := cellsB Lo) (o := 0) (.inl rfl) ((((Fr.refl (fun _ => False) wB).drew).trans fwl (fun _ _ q => q)).mono (fun _ _ q => q.elim))
      refine anyH_take 12 10 (.int .i64 z10) rfl rfl (by kernel_rfl) (by kernel_rfl) (by kernel_rfl) (fun _ _ _ h => h) (.inl ⟨by rfl, fun w'' hS => by go_simp⟩) hS1 ?_
      (simp only [List.setIfInBounds_toArray, List.set_cons_zero, List.set_cons_succ])
      refine anyH_take 13 9 (.int .i64 e9) rfl rfl (by kernel_rfl) (by kernel_rfl) (by kernel_rfl) (fun _ _ _ h => h) (.inl ⟨by rfl, fun w'' hS => by go_simp⟩) hS1 ?_
      (simp only [List.setIfInBounds_toArray, List.set_cons_zero, List.set_cons_succ])
      refine wpAnyH_done (by kernel_rfl) ?_ _
      obtain ⟨wm, hwm⟩ : ∃ W, W = wl.setCells g8 0 (cellsB Lo) := ⟨_, rfl⟩
      rw [← hwm] at hbo hS1 hS2 ⊢
      clear hwm
      have HM8 := Lib.hid (And.intro hbo (And.intro hS1 hS2))
      have HPm : Hid (∀ W, Fr (fun q => g6 < q) wm W → Fr (fun q => g6 < q) wB W) := Lib.hid fun W f => HM8.out.2.1.trans f (fun _ _ q => q)
      clear hbo hS1 hS2 hb8 swl fwl hS0
      go_upto_region 10 with (fail)
      refine wp_region_held_drew (S := fun w' => Fr (fun q => g6 < q) wm w') (by kernel_rfl) ((Fr.refl _ _).drew) (fun hS0 => ?_)
      refine anyH_take 0 41 (.agg #[.int .i64 x.kind, .int .i64 x.next, .slice A1 n1 c1]) rfl rfl (by kernel_rfl) (by kernel_rfl) (by kernel_rfl) (fun _ _ _ h => h) (yieldsIf_load_mid (by rfl) _ _ rfl _ _ rfl _ _ (fun w' f => (HP.out w' (HPm.out w' f)).2.2.2.2.1) hupr rfl infoRef) hS0 ?_
      (simp only [List.setIfInBounds_toArray, List.set_cons_zero, List.set_cons_succ])
      refine anyH_take 1 42 (.agg #[.int .i64 x.kind, .int .i64 x.next, .slice A1 n1 c1]) rfl rfl (by kernel_rfl) (by kernel_rfl) (by kernel_rfl) (fun _ _ _ h => h) (yieldsIf_load_mid (by rfl) _ _ rfl _ _ rfl _ _ (fun w' f => (HP.out w' (HPm.out w' f)).2.2.2.2.1) hupr rfl infoRef) hS0 ?_
      (simp only [List.setIfInBounds_toArray, List.set_cons_zero, List.set_cons_succ])
      refine anyH_take 3 44 (.pointer (some ⟨g3, 3, none⟩)) rfl rfl (by kernel_rfl) (by kernel_rfl) (by kernel_rfl) (fun _ _ _ h => h) (.inl ⟨by rfl, fun w'' hS => by go_simp⟩) hS0 ?_
      (simp only [List.setIfInBounds_toArray, List.set_cons_zero, List.set_cons_succ])
      refine anyH_take 4 45 (.slice A nb c) rfl rfl (by kernel_rfl) (by kernel_rfl) (by kernel_rfl) (fun _ _ _ h => h) (.inl ⟨by rfl, fun w'' hS => by have q0 := (HP.out w'' (HPm.out w'' hS)).2.2.2.2.2; go_simp⟩) hS0 ?_
      (simp only [List.setIfInBounds_toArray, List.set_cons_zero, List.set_cons_succ])
      refine anyH_enter 2 43 (by kernel_rfl) rfl rfl (by rfl) (by go_simp) ((HFree.out _ (HPm.out _ hS0)).mono ?_)
      rintro e wn ⟨rfl, fwn⟩
      have swn := hS0.trans fwn (fun _ _ q => q.elim)
      refine ⟨_, rfl, swn, ?_⟩
      (simp only [List.setIfInBounds_toArray, List.set_cons_zero, List.set_cons_succ])
      refine anyH_enter 5 46 (by kernel_rfl) rfl rfl (by rfl) (by go_simp) ((HWith.out _ (HPm.out _ swn)).mono ?_)
      rintro e wp ⟨A5, n5, c5, rfl, hn5, hc5, hR5, hB5, fwp⟩
      have swp := swn.trans fwp (fun _ _ q => q.elim)
      refine ⟨_, rfl, swp, ?_⟩
      (simp only [List.setIfInBounds_toArray, List.set_cons_zero, List.set_cons_succ])
      have fmp : Fr (fun q => q = g8) wB wp := HM8.out.2.2.trans ((((Fr.refl (fun _ => False) wm).drew).trans fwn (fun _ _ q => q)).trans fwp (fun _ _ q => q)) (fun _ _ q => q.elim)
      have hb11 := HG.out.v.keep fmp (by have := HG.out.h; omega)
      refine anyH_skip 6 _ (by kernel_rfl) rfl rfl (by rfl) (run_store_ref _ _ rfl hb11 rfl rfl (by simp [Value.oneCell'])) (Fr.setCells (.inl hg11) swp) ?_
      have hbr := set_three (v0 := Value.int .i64 (x.kind : Int)) (v1 := Value.int .i64 (x.next : Int)) (v2 := Value.slice A5 n5 c5) hb11
      have hS3 := Fr.setCells (F := fun q => g6 < q) (b := g11) (vs := [Value.int .i64 (x.kind : Int), Value.int .i64 (x.next : Int), Value.slice A5 n5 c5]) (o := 0) (.inl hg11) swp
      have hS4 := Fr.setCells (F := fun q => q = g8 ∨ q = g11) (b := g11) (vs := [Value.int .i64 (x.kind : Int), Value.int .i64 (x.next : Int), Value.slice A5 n5 c5]) (o := 0) (.inl (.inr rfl)) (fmp.mono (fun _ _ q => .inl q))
      have hS5 := Fr.setCells (F := fun q => q = g11) (b := g11) (vs := [Value.int .i64 (x.kind : Int), Value.int .i64 (x.next : Int), Value.slice A5 n5 c5]) (o := 0) (.inl rfl) (Fr.refl _ wp)
      refine anyH_take 7 12 (.int .i64 0) rfl rfl (by kernel_rfl) (by kernel_rfl) (by kernel_rfl) (fun _ _ _ h => h) (.inl ⟨by rfl, fun w'' hS => by go_simp⟩) hS3 ?_
      (simp only [List.setIfInBounds_toArray, List.set_cons_zero, List.set_cons_succ])
      refine wpAnyH_done (by kernel_rfl) ?_ _
      have hw : (x.want a) = x.lay a.b := by have h1 := H1.out; unfold PD.want; rw [if_pos h1]
      have hn0 : no0 x a = 0 := by have h1 := H1.out; unfold no0; rw [if_neg (by omega), if_neg (by omega)]
      have hg11n : g11 < wn.heap.size := by have h9 := (HG.out.v.keep HM8.out.2.2 (by have := HG.out.h; omega)).lt; have h8 := fwn.size; have e : wm.drew.heap.size = wm.heap.size := rfl; omega
      have hR6 := hR5.onK hS5 (fun u hu ad n c e hn q => by have := hu ad n c e hn; omega) (fun CB e q => by have := hB5 CB e; omega)
      have hb8p := HM8.out.1.keep ((((Fr.refl (fun _ => False) wm).drew).trans fwn (fun _ _ q => q)).trans fwp (fun _ _ q => q)) (fun q => q)
      have hb8q := hb8p.keep hS5 (by have := HG.out.h; omega)
      have HMid : Hid (Mid (wp.setCells g11 0 [Value.int .i64 (x.kind : Int), Value.int .i64 (x.next : Int), Value.slice A5 n5 c5]) g8 g11 x a Lo z10 e9 0) := Lib.hid ⟨x.kind, x.next, A5, n5, c5, putS x.s (firstE x.s) (some a.b), HO.out, hn0.symm, hn5, by rw [hw]; rfl, fun _ => by rw [hw]; exact ⟨rfl, rfl⟩, hb8q, hbr, hc5, hR6⟩
      have HS4 := Lib.hid hS4
      clear hR6 hb8p hb8q hS5 hS4 hS3 hbr hb11 fmp swp fwp swn fwn hR5 hB5 hn5 hc5 hw hn0 hg11n hS0 hb1
      go_wp2_with fail
      go_meet
      exact ⟨Lo, z10, e9, 0, rfl, rfl, rfl, HMid, HS4⟩
    · have hb1 : (a.kd == 1) = false := by simp [h1]
      by_cases h2 : a.kd = 2
      · have hb2 : (a.kd == 2) = true := by simp [h2]
        obtain ⟨Lo, e9, ho, hC⟩ := put_all HK.out h2
        have hLo := ho.len
        have HO := Lib.hid ho
        have HC : Hid (∀ W, Fr (fun _ => False) wB W → Calls Try.prog 45 #[av x.bytes, .int .i64 a.sl, .slice Ao nb co] W fun e w' => e = .returned (.tuple #[av Lo, .int .i64 e9]) ∧ Fr (fun _ => False) W w') := Lib.hid fun W f => hC W Ao nb co HG.out.hn (HOwn.out W f)
        have H1 := Lib.hid (And.intro h1 h2)
        clear ho hC h1 h2
        go_upto_region 12 with (fail)
        refine wp_region_held_drew (S := fun w' => Fr (fun q => g6 < q) wB w') (by kernel_rfl) ((Fr.refl _ _).drew) (fun hS0 => ?_)
        refine anyH_take 0 50 (av x.bytes) rfl rfl (by kernel_rfl) (by kernel_rfl) (by kernel_rfl) (fun _ _ _ h => h) (yieldsIf_load_mid (by rfl) _ _ rfl _ _ rfl _ _ (fun w' f => (HP.out w' f).1) hup rfl hinfo) hS0 ?_
        (simp only [List.setIfInBounds_toArray, List.set_cons_zero, List.set_cons_succ])
        refine anyH_take 1 51 (.pointer (some ⟨g3, 1, none⟩)) rfl rfl (by kernel_rfl) (by kernel_rfl) (by kernel_rfl) (fun _ _ _ h => h) (.inl ⟨by rfl, fun w'' hS => by go_simp⟩) hS0 ?_
        (simp only [List.setIfInBounds_toArray, List.set_cons_zero, List.set_cons_succ])
        refine anyH_take 2 52 (.int .i64 a.sl) rfl rfl (by kernel_rfl) (by kernel_rfl) (by kernel_rfl) (fun _ _ _ h => h) (.inl ⟨by rfl, fun w'' hS => by have q0 := (HP.out w'' hS).2.2.1; go_simp⟩) hS0 ?_
        (simp only [List.setIfInBounds_toArray, List.set_cons_zero, List.set_cons_succ])
        refine anyH_take 3 53 (.slice Ao (nb + 1) co) rfl rfl (by kernel_rfl) (by kernel_rfl) (by kernel_rfl) (fun _ _ _ h => h) (.inl ⟨by rfl, fun w'' hS => by go_simp⟩) hS0 ?_
        (simp only [List.setIfInBounds_toArray, List.set_cons_zero, List.set_cons_succ])
        refine anyH_take 4 54 (.pointer (some ⟨g3, 3, none⟩)) rfl rfl (by kernel_rfl) (by kernel_rfl) (by kernel_rfl) (fun _ _ _ h => h) (.inl ⟨by rfl, fun w'' hS => by go_simp⟩) hS0 ?_
        (simp only [List.setIfInBounds_toArray, List.set_cons_zero, List.set_cons_succ])
        refine anyH_take 5 55 (.slice A nb c) rfl rfl (by kernel_rfl) (by kernel_rfl) (by kernel_rfl) (fun _ _ _ h => h) (.inl ⟨by rfl, fun w'' hS => by have q0 := (HP.out w'' hS).2.2.2.2.2; go_simp⟩) hS0 ?_
        (simp only [List.setIfInBounds_toArray, List.set_cons_zero, List.set_cons_succ])
        refine anyH_take 6 56 (.int .i64 (nb : Int)) rfl rfl (by kernel_rfl) (by kernel_rfl) (by kernel_rfl) (fun _ _ _ h => h) (.inl ⟨by rfl, fun w'' hS => by go_simp⟩) hS0 ?_
        (simp only [List.setIfInBounds_toArray, List.set_cons_zero, List.set_cons_succ])
        refine anyH_take 7 57 (.slice Ao nb co) rfl rfl (by kernel_rfl) (by kernel_rfl) (by kernel_rfl) (fun _ _ _ h => h) (.inl ⟨by rfl, fun w'' hS => by have q0 := hsl w''; go_simp⟩) hS0 ?_
        (simp only [List.setIfInBounds_toArray, List.set_cons_zero, List.set_cons_succ])
        refine anyH_enter 8 58 (by kernel_rfl) rfl rfl (by rfl) (by go_simp) ((HC.out _ ((Fr.refl _ _).drew)).mono ?_)
        rintro e wl ⟨rfl, fwl⟩
        have swl := hS0.trans fwl (fun _ _ q => q.elim)
        refine ⟨_, rfl, swl, ?_⟩
        (simp only [List.setIfInBounds_toArray, List.set_cons_zero, List.set_cons_succ])
        refine anyH_take 9 49 (.tuple #[av Lo, .int .i64 e9]) rfl rfl (by kernel_rfl) (by kernel_rfl) (by kernel_rfl) (fun _ _ _ h => h) (.inl ⟨by rfl, fun w'' hS => by go_simp⟩) swl ?_
        (simp only [List.setIfInBounds_toArray, List.set_cons_zero, List.set_cons_succ])
        refine anyH_take 10 59 (av Lo) rfl rfl (by kernel_rfl) (by kernel_rfl) (by kernel_rfl) (fun _ _ _ h => h) (.inl ⟨by rfl, fun w'' hS => by go_simp⟩) swl ?_
        (simp only [List.setIfInBounds_toArray, List.set_cons_zero, List.set_cons_succ])
        refine anyH_take 11 60 (.int .i64 e9) rfl rfl (by kernel_rfl) (by kernel_rfl) (by kernel_rfl) (fun _ _ _ h => h) (.inl ⟨by rfl, fun w'' hS => by go_simp⟩) swl ?_
        (simp only [List.setIfInBounds_toArray, List.set_cons_zero, List.set_cons_succ])
        have hb8 := HG.out.o.keep (((Fr.refl (fun _ => False) wB).drew).trans fwl (fun _ _ q => q)) (fun q => q)
        refine anyH_skip 12 _ (by kernel_rfl) rfl rfl (by rfl) (run_store_mid 26 _ _ rfl g8 0 (cellsB Lo).toArray rfl rfl (hb8.there (by simp [cellsB_len, nought_len, hLo])) (by rw [infoPage]; simp [cellsB_len, hLo]) (all_oneCell_toArray (cellsB_one _))) (Fr.setCells (.inl hg8) swl) ?_
        have hbo := hb8.over (o := 0) (m := Lo) (by rw [nought_len]; omega)
        rw [patch_all (by rw [nought_len]; omega)] at hbo
        have hS1 := Fr.setCells (F := fun q => g6 < q) (b := g8) (vs := cellsB Lo) (o := 0) (.inl hg8) swl
        have hS2 := Fr.setCells (F := fun q => q = g8) (b := g8) (vs := cellsB Lo) (o := 0) (.inl rfl) ((((Fr.refl (fun _ => False) wB).drew).trans fwl (fun _ _ q => q)).mono (fun _ _ q => q.elim))
        refine anyH_take 13 9 (.int .i64 e9) rfl rfl (by kernel_rfl) (by kernel_rfl) (by kernel_rfl) (fun _ _ _ h => h) (.inl ⟨by rfl, fun w'' hS => by go_simp⟩) hS1 ?_
        (simp only [List.setIfInBounds_toArray, List.set_cons_zero, List.set_cons_succ])
        refine wpAnyH_done (by kernel_rfl) ?_ _
        obtain ⟨wm, hwm⟩ : ∃ W, W = wl.setCells g8 0 (cellsB Lo) := ⟨_, rfl⟩
        rw [← hwm] at hbo hS1 hS2 ⊢
        clear hwm
        have HM8 := Lib.hid (And.intro hbo (And.intro hS1 hS2))
        have HPm : Hid (∀ W, Fr (fun q => g6 < q) wm W → Fr (fun q => g6 < q) wB W) := Lib.hid fun W f => HM8.out.2.1.trans f (fun _ _ q => q)
        clear hbo hS1 hS2 hb8 swl fwl hS0
        have km6 := HG.out.r.keep HM8.out.2.1 (by have := HG.out.h; omega)
        have km3 := HG.out.a_.keep HM8.out.2.1 (by have := HG.out.h; omega)
        have cm60 : wm.cell? ⟨g6, 0, none⟩ = some (.int .i64 x.kind) := (km6.cell 0).trans rfl
        have cm61 : wm.cell? ⟨g6, 1, none⟩ = some (.int .i64 x.next) := (km6.cell 1).trans rfl
        have cm62 : wm.cell? ⟨g6, 2, none⟩ = some (.slice A1 n1 c1) := (km6.cell 2).trans rfl
        have cm30 : wm.cell? ⟨g3, 0, none⟩ = some (.int .i64 a.kd) := (km3.cell 0).trans rfl
        have cm31 : wm.cell? ⟨g3, 1, none⟩ = some (.int .i64 a.sl) := (km3.cell 1).trans rfl
        have cm32 : wm.cell? ⟨g3, 2, none⟩ = some (.int .i64 a.nx) := (km3.cell 2).trans rfl
        have cm33 : wm.cell? ⟨g3, 3, none⟩ = some (.slice A nb c) := (km3.cell 3).trans rfl
        clear km6 km3
        have CH := Has_any (z := a.sl) (k := (x.kind : Int)) (n := (x.next : Int)) (c := c1) (HSR.out wm HM8.out.2.1) (by rw [← HG.out.hn1]; exact HG.out.hnc1) (by omega)
        rw [← HG.out.hn1] at CH
        have hhs : (decide (0 ≤ a.sl) && isB x.s a.sl.toNat) = hasS x.s a.sl := rfl
        rw [hhs] at CH
        go_wp2_with fail
        refine CH.mono ?_
        rintro e wn ⟨rfl, fwn⟩
        clear cm60 cm61 cm62 cm30 cm31 cm32 cm33
        clear CH hhs
        have fbn := HM8.out.2.1.trans fwn (fun _ _ q => q.elim)
        by_cases hs : hasS x.s a.sl = true
        · obtain ⟨z, oz, hz, hoz⟩ := has_some hs
          have kn6 := HG.out.r.keep fbn (by have := HG.out.h; omega)
          have kn3 := HG.out.a_.keep fbn (by have := HG.out.h; omega)
          have cn60 : wn.cell? ⟨g6, 0, none⟩ = some (.int .i64 x.kind) := (kn6.cell 0).trans rfl
          have cn61 : wn.cell? ⟨g6, 1, none⟩ = some (.int .i64 x.next) := (kn6.cell 1).trans rfl
          have cn62 : wn.cell? ⟨g6, 2, none⟩ = some (.slice A1 n1 c1) := (kn6.cell 2).trans rfl
          have cn30 : wn.cell? ⟨g3, 0, none⟩ = some (.int .i64 a.kd) := (kn3.cell 0).trans rfl
          have cn31 : wn.cell? ⟨g3, 1, none⟩ = some (.int .i64 a.sl) := (kn3.cell 1).trans rfl
          have cn32 : wn.cell? ⟨g3, 2, none⟩ = some (.int .i64 a.nx) := (kn3.cell 2).trans rfl
          have cn33 : wn.cell? ⟨g3, 3, none⟩ = some (.slice A nb c) := (kn3.cell 3).trans rfl
          clear kn6 kn3
          have CW := With_any (kd := (x.kind : Int)) (nx := (x.next : Int)) (c := c1) (HG.out.recs wn fbn) (fun ad n c e => by cases e) (by rw [← HG.out.hn1]; exact HG.out.hnc1) (by omega) (i := z) (by have := (List.getElem?_eq_some_iff.1 hoz).1; omega) HG.out.hn (HG.out.rd wn fbn) HG.out.und
          rw [← HG.out.hn1, ← hz] at CW
          have HZ := Lib.hid (And.intro hz hoz)
          clear hz hoz
          rw [hs]
          go_wp2_with fail
          refine CW.mono ?_
          rintro e wp ⟨A5, n5, c5, rfl, hn5, hc5, hR5, hB5, fwp⟩
          clear cn60 cn61 cn62 cn30 cn31 cn32 cn33
          clear CW
          have fmp : Fr (fun q => q = g8) wB wp := HM8.out.2.2.trans (fwn.trans fwp (fun _ _ q => q)) (fun _ _ q => q.elim)
          have hb11 := HG.out.v.keep fmp (by have := HG.out.h; omega)
          have d0 : wp.cell? ⟨g11, 0, none⟩ = some (.int .i64 x.kind) := (hb11.cell 0).trans rfl
          have p0 := hb11.frozen 0
          have d1 : wp.cell? ⟨g11, 1, none⟩ = some (.int .i64 x.next) := (hb11.cell 1).trans rfl
          have p1 := hb11.frozen 1
          have d2 : wp.cell? ⟨g11, 2, none⟩ = some (.slice A1 n1 c1) := (hb11.cell 2).trans rfl
          have p2 := hb11.frozen 2
          have hbr := set_three (v0 := .int .i64 (x.kind : Int)) (v1 := .int .i64 (x.next : Int)) (v2 := .slice A5 n5 c5) hb11
          have hS4 := Fr.setCells (F := fun q => q = g8 ∨ q = g11) (b := g11) (vs := [Value.int .i64 (x.kind : Int), Value.int .i64 (x.next : Int), Value.slice A5 n5 c5]) (o := 0) (.inl (.inr rfl)) (fmp.mono (fun _ _ q => .inl q))
          have hS5 := Fr.setCells (F := fun q => q = g11) (b := g11) (vs := [Value.int .i64 (x.kind : Int), Value.int .i64 (x.next : Int), Value.slice A5 n5 c5]) (o := 0) (.inl rfl) (Fr.refl _ wp)
          have hw : x.want a = x.put z a.b := by unfold PD.want; have h2 := H1.out.2; rw [if_neg (by omega), if_pos h2]; rw [if_pos hs, HZ.out.1, Int.toNat_natCast]
          have hn0 : no0 x a = 0 := by unfold no0; rw [if_pos (.inl H1.out.2), if_pos hs]
          have hg11n : g11 < wn.heap.size := by have h9 := (HG.out.v.keep HM8.out.2.2 (by have := HG.out.h; omega)).lt; have h8 := fwn.size; omega
          have hR6 := hR5.onK hS5 (fun u hu ad n c e hn q => by have := hu ad n c e hn; omega) (fun CB e q => by have := hB5 CB e; omega)
          have hb8q := (HM8.out.1.keep (fwn.trans fwp (fun _ _ q => q)) (fun q => q)).keep hS5 (by have := HG.out.h; omega)
          have HMid : Hid (Mid (wp.setCells g11 0 [Value.int .i64 (x.kind : Int), Value.int .i64 (x.next : Int), Value.slice A5 n5 c5]) g8 g11 x a Lo 0 e9 0) := Lib.hid ⟨x.kind, x.next, A5, n5, c5, putS x.s z (some a.b), HO.out, hn0.symm, hn5, by rw [hw]; rfl, fun _ => by rw [hw]; exact ⟨rfl, rfl⟩, hb8q, hbr, hc5, hR6⟩
          have HS4 := Lib.hid hS4
          clear hR6 hb8q hS5 hS4 hbr hb11 fmp fwp fbn fwn hR5 hB5 hn5 hc5 hw hn0 hg11n hs
          clear hb1 hb2
          go_wp2_with fail
          go_meet
          exact ⟨Lo, 0, e9, 0, rfl, rfl, rfl, HMid, HS4⟩
        · have hf : hasS x.s a.sl = false := by simpa using hs
          have hw : x.want a = x := by unfold PD.want; have h2 := H1.out.2; rw [if_neg (by omega), if_pos h2]; rw [if_neg hs]
          have hn0 : no0 x a = 6 := by unfold no0; rw [if_pos (.inl H1.out.2), if_neg hs]
          have hb11 := (HG.out.v.keep HM8.out.2.2 (by have := HG.out.h; omega)).keep fwn (fun q => q)
          have HMid : Hid (Mid wn g8 g11 x a Lo 0 e9 6) := Lib.hid ⟨x.kind, x.next, A1, n1, c1, x.s, HO.out, hn0.symm, HG.out.hn1, by rw [hw], fun _ => by rw [hw]; exact ⟨rfl, rfl⟩, HM8.out.1.keep fwn (fun q => q), hb11, HG.out.hnc1, HSR.out wn fbn⟩
          have HS4 : Hid (Fr (fun q => q = g8 ∨ q = g11) wB wn) := Lib.hid ((HM8.out.2.2.mono (fun _ _ q => .inl q)).trans fwn (fun _ _ q => q.elim))
          rw [hf]
          clear hb11 fbn fwn hw hn0 hs hf
          clear hb1 hb2
          go_wp2_with fail
          go_meet
          exact ⟨Lo, 0, e9, 6, rfl, rfl, rfl, HMid, HS4⟩
      · have hb2 : (a.kd == 2) = false := by simp [h2]
        by_cases h3 : a.kd = 3
        · have hb3 : (a.kd == 3) = true := by simp [h3]
          obtain ⟨Lo, e9, ho, hC⟩ := take_all HK.out h3
          have hLo := ho.len
          have HO := Lib.hid ho
          have CT := hC wB
          have q0 := Lib.hid (HP.out wB (Fr.refl _ _)).1
          have H1 := Lib.hid h3
          clear ho hC h1 h2 h3
          have kb6 := HG.out.r.keep (Fr.refl (fun q => g6 < q) wB) (by have := HG.out.h; omega)
          have kb3 := HG.out.a_.keep (Fr.refl (fun q => g6 < q) wB) (by have := HG.out.h; omega)
          have cb60 : wB.cell? ⟨g6, 0, none⟩ = some (.int .i64 x.kind) := (kb6.cell 0).trans rfl
          have cb61 : wB.cell? ⟨g6, 1, none⟩ = some (.int .i64 x.next) := (kb6.cell 1).trans rfl
          have cb62 : wB.cell? ⟨g6, 2, none⟩ = some (.slice A1 n1 c1) := (kb6.cell 2).trans rfl
          have cb30 : wB.cell? ⟨g3, 0, none⟩ = some (.int .i64 a.kd) := (kb3.cell 0).trans rfl
          have cb31 : wB.cell? ⟨g3, 1, none⟩ = some (.int .i64 a.sl) := (kb3.cell 1).trans rfl
          have cb32 : wB.cell? ⟨g3, 2, none⟩ = some (.int .i64 a.nx) := (kb3.cell 2).trans rfl
          have cb33 : wB.cell? ⟨g3, 3, none⟩ = some (.slice A nb c) := (kb3.cell 3).trans rfl
          clear kb6 kb3
          go_wp2_with (refine wpList_load_want (by rfl) 26 _ rfl g2 0 rfl (cellsB x.bytes) _ q0.out hup rfl hinfo ?_)
          refine CT.mono ?_
          rintro e wl ⟨rfl, fwl⟩
          clear CT q0
          clear cb60 cb61 cb62 cb30 cb31 cb32 cb33
          have hb8 := HG.out.o.keep fwl (fun q => q)
          have hbo := hb8.over (o := 0) (m := Lo) (by rw [nought_len]; omega)
          rw [patch_all (by rw [nought_len]; omega)] at hbo
          have hS1 := Fr.setCells (F := fun q => g6 < q) (b := g8) (vs := cellsB Lo) (o := 0) (.inl hg8) (fwl.mono (fun _ _ q => q.elim))
          have hS2 := Fr.setCells (F := fun q => q = g8) (b := g8) (vs := cellsB Lo) (o := 0) (.inl rfl) (fwl.mono (fun _ _ q => q.elim))
          have HB8 := Lib.hid hb8
          have HSS := Lib.hid (And.intro hbo (And.intro hS1 hS2))
          clear hb8 hbo hS1 hS2 fwl
          go_upto_region 18 with (refine wpList_store_mid rfl 26 _ _ rfl g8 0 (cellsB Lo).toArray rfl rfl (HB8.out.there (by simp [cellsB_len, nought_len, hLo])) (by rw [infoPage]; simp [cellsB_len, hLo]) (all_oneCell_toArray (cellsB_one _)) ?_)
          obtain ⟨wm, hwm⟩ : ∃ W, W = wl.setCells g8 0 (cellsB Lo) := ⟨_, rfl⟩
          have HM8 := HSS
          rw [← hwm] at HM8 ⊢
          clear hwm HSS HB8
          have HPm : Hid (∀ W, Fr (fun q => g6 < q) wm W → Fr (fun q => g6 < q) wB W) := Lib.hid fun W f => HM8.out.2.1.trans f (fun _ _ q => q)
          have km6 := HG.out.r.keep HM8.out.2.1 (by have := HG.out.h; omega)
          have km3 := HG.out.a_.keep HM8.out.2.1 (by have := HG.out.h; omega)
          have cm60 : wm.cell? ⟨g6, 0, none⟩ = some (.int .i64 x.kind) := (km6.cell 0).trans rfl
          have cm61 : wm.cell? ⟨g6, 1, none⟩ = some (.int .i64 x.next) := (km6.cell 1).trans rfl
          have cm62 : wm.cell? ⟨g6, 2, none⟩ = some (.slice A1 n1 c1) := (km6.cell 2).trans rfl
          have cm30 : wm.cell? ⟨g3, 0, none⟩ = some (.int .i64 a.kd) := (km3.cell 0).trans rfl
          have cm31 : wm.cell? ⟨g3, 1, none⟩ = some (.int .i64 a.sl) := (km3.cell 1).trans rfl
          have cm32 : wm.cell? ⟨g3, 2, none⟩ = some (.int .i64 a.nx) := (km3.cell 2).trans rfl
          have cm33 : wm.cell? ⟨g3, 3, none⟩ = some (.slice A nb c) := (km3.cell 3).trans rfl
          clear km6 km3
          have CH := Has_any (z := a.sl) (k := (x.kind : Int)) (n := (x.next : Int)) (c := c1) (HSR.out wm HM8.out.2.1) (by rw [← HG.out.hn1]; exact HG.out.hnc1) (by omega)
          rw [← HG.out.hn1] at CH
          have hhs : (decide (0 ≤ a.sl) && isB x.s a.sl.toNat) = hasS x.s a.sl := rfl
          rw [hhs] at CH
          go_wp2_with fail
          refine CH.mono ?_
          rintro e wn ⟨rfl, fwn⟩
          clear cm60 cm61 cm62 cm30 cm31 cm32 cm33
          clear CH hhs
          have fbn := HM8.out.2.1.trans fwn (fun _ _ q => q.elim)
          by_cases hs : hasS x.s a.sl = true
          · obtain ⟨z, oz, hz, hoz⟩ := has_some hs
            have kn6 := HG.out.r.keep fbn (by have := HG.out.h; omega)
            have kn3 := HG.out.a_.keep fbn (by have := HG.out.h; omega)
            have cn60 : wn.cell? ⟨g6, 0, none⟩ = some (.int .i64 x.kind) := (kn6.cell 0).trans rfl
            have cn61 : wn.cell? ⟨g6, 1, none⟩ = some (.int .i64 x.next) := (kn6.cell 1).trans rfl
            have cn62 : wn.cell? ⟨g6, 2, none⟩ = some (.slice A1 n1 c1) := (kn6.cell 2).trans rfl
            have cn30 : wn.cell? ⟨g3, 0, none⟩ = some (.int .i64 a.kd) := (kn3.cell 0).trans rfl
            have cn31 : wn.cell? ⟨g3, 1, none⟩ = some (.int .i64 a.sl) := (kn3.cell 1).trans rfl
            have cn32 : wn.cell? ⟨g3, 2, none⟩ = some (.int .i64 a.nx) := (kn3.cell 2).trans rfl
            have cn33 : wn.cell? ⟨g3, 3, none⟩ = some (.slice A nb c) := (kn3.cell 3).trans rfl
            clear kn6 kn3
            have CW := Without_any (kd := (x.kind : Int)) (nx := (x.next : Int)) (c := c1) (HG.out.recs wn fbn) (fun ad n c e => by cases e) (by rw [← HG.out.hn1]; exact HG.out.hnc1) (by omega) (i := z) (List.getElem?_eq_some_iff.1 hoz).1
            rw [← HG.out.hn1, ← hz] at CW
            have HZ := Lib.hid (And.intro hz hoz)
            clear hz hoz
            rw [hs]
            go_wp2_with fail
            refine CW.mono ?_
            rintro e wp ⟨A5, n5, c5, rfl, hn5, hc5, hR5, hB5, fwp⟩
            clear cn60 cn61 cn62 cn30 cn31 cn32 cn33
            clear CW
            have fmp : Fr (fun q => q = g8) wB wp := HM8.out.2.2.trans (fwn.trans fwp (fun _ _ q => q)) (fun _ _ q => q.elim)
            have hb11 := HG.out.v.keep fmp (by have := HG.out.h; omega)
            have d0 : wp.cell? ⟨g11, 0, none⟩ = some (.int .i64 x.kind) := (hb11.cell 0).trans rfl
            have p0 := hb11.frozen 0
            have d1 : wp.cell? ⟨g11, 1, none⟩ = some (.int .i64 x.next) := (hb11.cell 1).trans rfl
            have p1 := hb11.frozen 1
            have d2 : wp.cell? ⟨g11, 2, none⟩ = some (.slice A1 n1 c1) := (hb11.cell 2).trans rfl
            have p2 := hb11.frozen 2
            have hbr := set_three (v0 := .int .i64 (x.kind : Int)) (v1 := .int .i64 (x.next : Int)) (v2 := .slice A5 n5 c5) hb11
            have hS4 := Fr.setCells (F := fun q => q = g8 ∨ q = g11) (b := g11) (vs := [Value.int .i64 (x.kind : Int), Value.int .i64 (x.next : Int), Value.slice A5 n5 c5]) (o := 0) (.inl (.inr rfl)) (fmp.mono (fun _ _ q => .inl q))
            have hS5 := Fr.setCells (F := fun q => q = g11) (b := g11) (vs := [Value.int .i64 (x.kind : Int), Value.int .i64 (x.next : Int), Value.slice A5 n5 c5]) (o := 0) (.inl rfl) (Fr.refl _ wp)
            have hw : x.want a = x.drop z := by unfold PD.want; have h3 := H1.out; rw [if_neg (by omega), if_neg (by omega), if_pos h3]; rw [if_pos hs, HZ.out.1, Int.toNat_natCast]
            have hn0 : no0 x a = 0 := by unfold no0; rw [if_pos (.inr H1.out), if_pos hs]
            have hg11n : g11 < wn.heap.size := by have h9 := (HG.out.v.keep HM8.out.2.2 (by have := HG.out.h; omega)).lt; have h8 := fwn.size; omega
            have hR6 := hR5.onK hS5 (fun u hu ad n c e hn q => by have := hu ad n c e hn; omega) (fun CB e q => by have := hB5 CB e; omega)
            have hb8q := (HM8.out.1.keep (fwn.trans fwp (fun _ _ q => q)) (fun q => q)).keep hS5 (by have := HG.out.h; omega)
            have HMid : Hid (Mid (wp.setCells g11 0 [Value.int .i64 (x.kind : Int), Value.int .i64 (x.next : Int), Value.slice A5 n5 c5]) g8 g11 x a Lo 0 e9 0) := Lib.hid ⟨x.kind, x.next, A5, n5, c5, trim (putS x.s z none), HO.out, hn0.symm, hn5, by rw [hw]; rfl, fun _ => by rw [hw]; exact ⟨rfl, rfl⟩, hb8q, hbr, hc5, hR6⟩
            have HS4 := Lib.hid hS4
            clear hR6 hb8q hS5 hS4 hbr hb11 fmp fwp fbn fwn hR5 hB5 hn5 hc5 hw hn0 hg11n hs
            clear hb1 hb2 hb3
            go_wp2_with fail
            go_meet
            exact ⟨Lo, 0, e9, 0, rfl, rfl, rfl, HMid, HS4⟩
          · have hf : hasS x.s a.sl = false := by simpa using hs
            have hw : x.want a = x := by unfold PD.want; have h3 := H1.out; rw [if_neg (by omega), if_neg (by omega), if_pos h3]; rw [if_neg hs]
            have hn0 : no0 x a = 6 := by unfold no0; rw [if_pos (.inr H1.out), if_neg hs]
            have hb11 := (HG.out.v.keep HM8.out.2.2 (by have := HG.out.h; omega)).keep fwn (fun q => q)
            have HMid : Hid (Mid wn g8 g11 x a Lo 0 e9 6) := Lib.hid ⟨x.kind, x.next, A1, n1, c1, x.s, HO.out, hn0.symm, HG.out.hn1, by rw [hw], fun _ => by rw [hw]; exact ⟨rfl, rfl⟩, HM8.out.1.keep fwn (fun q => q), hb11, HG.out.hnc1, HSR.out wn fbn⟩
            have HS4 : Hid (Fr (fun q => q = g8 ∨ q = g11) wB wn) := Lib.hid ((HM8.out.2.2.mono (fun _ _ q => .inl q)).trans fwn (fun _ _ q => q.elim))
            rw [hf]
            clear hb11 fbn fwn hw hn0 hs hf
            clear hb1 hb2 hb3
            go_wp2_with fail
            go_meet
            exact ⟨Lo, 0, e9, 6, rfl, rfl, rfl, HMid, HS4⟩
        · have hb3 : (a.kd == 3) = false := by simp [h3]
          by_cases h4 : a.kd = 4
          · have hb4 : (a.kd == 4) = true := by simp [h4]
            obtain ⟨Lo, e9, ho, hC⟩ := link_all HK.out h4
            have hLo := ho.len
            have HO := Lib.hid ho
            have CT := hC wB
            have q0 := Lib.hid (HP.out wB (Fr.refl _ _)).1
            have H1 := Lib.hid h4
            clear ho hC h1 h2 h3 h4
            have kb6 := HG.out.r.keep (Fr.refl (fun q => g6 < q) wB) (by have := HG.out.h; omega)
            have kb3 := HG.out.a_.keep (Fr.refl (fun q => g6 < q) wB) (by have := HG.out.h; omega)
            have cb60 : wB.cell? ⟨g6, 0, none⟩ = some (.int .i64 x.kind) := (kb6.cell 0).trans rfl
            have cb61 : wB.cell? ⟨g6, 1, none⟩ = some (.int .i64 x.next) := (kb6.cell 1).trans rfl
            have cb62 : wB.cell? ⟨g6, 2, none⟩ = some (.slice A1 n1 c1) := (kb6.cell 2).trans rfl
            have cb30 : wB.cell? ⟨g3, 0, none⟩ = some (.int .i64 a.kd) := (kb3.cell 0).trans rfl
            have cb31 : wB.cell? ⟨g3, 1, none⟩ = some (.int .i64 a.sl) := (kb3.cell 1).trans rfl
            have cb32 : wB.cell? ⟨g3, 2, none⟩ = some (.int .i64 a.nx) := (kb3.cell 2).trans rfl
            have cb33 : wB.cell? ⟨g3, 3, none⟩ = some (.slice A nb c) := (kb3.cell 3).trans rfl
            clear kb6 kb3
            go_wp2_with (refine wpList_load_want (by rfl) 26 _ rfl g2 0 rfl (cellsB x.bytes) _ q0.out hup rfl hinfo ?_)
            refine CT.mono ?_
            rintro e wl ⟨rfl, fwl⟩
            clear CT q0
            clear cb60 cb61 cb62 cb30 cb31 cb32 cb33
            have hb8 := HG.out.o.keep fwl (fun q => q)
            have hbo := hb8.over (o := 0) (m := Lo) (by rw [nought_len]; omega)
            rw [patch_all (by rw [nought_len]; omega)] at hbo
            have hS1 := Fr.setCells (F := fun q => g6 < q) (b := g8) (vs := cellsB Lo) (o := 0) (.inl hg8) (fwl.mono (fun _ _ q => q.elim))
            have hS2 := Fr.setCells (F := fun q => q = g8) (b := g8) (vs := cellsB Lo) (o := 0) (.inl rfl) (fwl.mono (fun _ _ q => q.elim))
            have HB8 := Lib.hid hb8
            have HSS := Lib.hid (And.intro hbo (And.intro hS1 hS2))
            clear hb8 hbo hS1 hS2 fwl
            go_upto_region 23 with (refine wpList_store_mid rfl 26 _ _ rfl g8 0 (cellsB Lo).toArray rfl rfl (HB8.out.there (by simp [cellsB_len, nought_len, hLo])) (by rw [infoPage]; simp [cellsB_len, hLo]) (all_oneCell_toArray (cellsB_one _)) ?_)
            obtain ⟨wm, hwm⟩ : ∃ W, W = wl.setCells g8 0 (cellsB Lo) := ⟨_, rfl⟩
            have HM8 := HSS
            rw [← hwm] at HM8 ⊢
            clear hwm HSS HB8
            have hb11 := HG.out.v.keep HM8.out.2.2 (by have := HG.out.h; omega)
            have km6 := HG.out.r.keep HM8.out.2.1 (by have := HG.out.h; omega)
            have km3 := HG.out.a_.keep HM8.out.2.1 (by have := HG.out.h; omega)
            have cm60 : wm.cell? ⟨g6, 0, none⟩ = some (.int .i64 x.kind) := (km6.cell 0).trans rfl
            have cm61 : wm.cell? ⟨g6, 1, none⟩ = some (.int .i64 x.next) := (km6.cell 1).trans rfl
            have cm62 : wm.cell? ⟨g6, 2, none⟩ = some (.slice A1 n1 c1) := (km6.cell 2).trans rfl
            have cm30 : wm.cell? ⟨g3, 0, none⟩ = some (.int .i64 a.kd) := (km3.cell 0).trans rfl
            have cm31 : wm.cell? ⟨g3, 1, none⟩ = some (.int .i64 a.sl) := (km3.cell 1).trans rfl
            have cm32 : wm.cell? ⟨g3, 2, none⟩ = some (.int .i64 a.nx) := (km3.cell 2).trans rfl
            have cm33 : wm.cell? ⟨g3, 3, none⟩ = some (.slice A nb c) := (km3.cell 3).trans rfl
            clear km6 km3
            have d1 : wm.cell? ⟨g11, 1, none⟩ = some (.int .i64 x.next) := (hb11.cell 1).trans rfl
            have p1 := hb11.frozen 1
            have hbr := hb11.set_ 1 (.int .i64 a.nx)
            have hS5 : Fr (fun q => q = g11) wm (wm.setCell ⟨g11, 1, none⟩ (.int .i64 a.nx)) := (Fr.refl (fun q => q = g11) wm).setCell (p := ⟨g11, 1, none⟩) (.inl rfl) _
            have hS4 : Fr (fun q => q = g8 ∨ q = g11) wB (wm.setCell ⟨g11, 1, none⟩ (.int .i64 a.nx)) := (HM8.out.2.2.mono (fun _ _ q => .inl q)).trans hS5 (fun _ _ q => .inr q)
            have hS6 : Fr (fun q => g6 < q) wB (wm.setCell ⟨g11, 1, none⟩ (.int .i64 a.nx)) := HM8.out.2.1.trans hS5 (fun _ _ q => by omega)
            have hb8q := HM8.out.1.keep hS5 (by have := HG.out.h; omega)
            have hwk : (nxOk a.nx = true → (x.want a).s = x.s ∧ (x.want a).kind = x.kind ∧ ((x.want a).next : Int) = a.nx ∧ no0 x a = 0) ∧ (nxOk a.nx = false → (x.want a).s = x.s ∧ no0 x a = 2 ∧ noOf x a = 2) := by
              have h4 := H1.out
              constructor
              · intro hh
                have hw : x.want a = x.link a.nx.toNat := by unfold PD.want; rw [if_neg (by omega), if_neg (by omega), if_neg (by omega), if_pos h4, if_pos hh]
                rw [hw]
                refine ⟨rfl, rfl, ?_, by unfold no0; rw [if_neg (by omega), if_pos h4, if_pos hh]⟩
                unfold nxOk at hh
                rw [decide_eq_true_eq] at hh
                show ((a.nx.toNat : Nat) : Int) = a.nx
                omega
              · intro hh
                have hh2 : ¬ nxOk a.nx = true := by simp [hh]
                have hw : x.want a = x := by unfold PD.want; rw [if_neg (by omega), if_neg (by omega), if_neg (by omega), if_pos h4, if_neg hh2]
                have hn0 : no0 x a = 2 := by unfold no0; rw [if_neg (by omega), if_pos h4, if_neg hh2]
                have hn1 : no1 x a = 2 := by unfold no1; rw [if_neg (by omega), hn0]
                exact ⟨by rw [hw], hn0, by unfold noOf; rw [hn1]; rfl⟩
            have HEND : Hid ((nxOk a.nx = true → Mid (wm.setCell ⟨g11, 1, none⟩ (.int .i64 a.nx)) g8 g11 x a Lo 0 e9 0) ∧ (nxOk a.nx = false → Mid (wm.setCell ⟨g11, 1, none⟩ (.int .i64 a.nx)) g8 g11 x a Lo 0 e9 2)) := Lib.hid ⟨fun hh => ⟨x.kind, a.nx, A1, n1, c1, x.s, HO.out, (hwk.1 hh).2.2.2.symm, HG.out.hn1, (hwk.1 hh).1.symm, fun _ => ⟨by rw [(hwk.1 hh).2.1], (hwk.1 hh).2.2.1.symm⟩, hb8q, hbr, HG.out.hnc1, HSR.out _ hS6⟩,
              fun hh => ⟨x.kind, a.nx, A1, n1, c1, x.s, HO.out, (hwk.2 hh).2.1.symm, HG.out.hn1, (hwk.2 hh).1.symm, fun h => absurd h (by rw [(hwk.2 hh).2.2]; decide), hb8q, hbr, HG.out.hnc1, HSR.out _ hS6⟩⟩
            have HS4 := Lib.hid hS4
            clear hb8q hbr hS4 hS5 hS6 hwk hb11 hb1 hb2 hb3 hb4
            by_cases hlo : a.nx < 0
            · have hx := HEND.out.2 (by unfold nxOk; apply decide_eq_false; omega)
              have HX9 := Lib.hid hx
              clear hx
              go_wp2_with fail
              go_meet
              exact ⟨Lo, 0, e9, 2, rfl, rfl, rfl, HX9, HS4⟩
            · by_cases hhi : a.nx > 2147483647
              · have hx := HEND.out.2 (by unfold nxOk; apply decide_eq_false; omega)
                have HX9 := Lib.hid hx
                clear hx
                go_wp2_with fail
                go_meet
                exact ⟨Lo, 0, e9, 2, rfl, rfl, rfl, HX9, HS4⟩
              · have hx := HEND.out.1 (by unfold nxOk; apply decide_eq_true; omega)
                have HX9 := Lib.hid hx
                clear hx
                go_wp2_with fail
                go_meet
                exact ⟨Lo, 0, e9, 0, rfl, rfl, rfl, HX9, HS4⟩
          · have hb4 : (a.kd == 4) = false := by simp [h4]
            have hst : x.step a = x := by
              have hw : x.want a = x := by unfold PD.want; rw [if_neg h1, if_neg h2, if_neg h3, if_neg h4]
              unfold PD.step
              rw [hw]
              split <;> rfl
            have hl := HLL.out
            have q0 := Lib.hid (HP.out wB (Fr.refl _ _)).1
            have hq := HG.out.q
            have hbo := hq.over (o := 0) (m := x.bytes) (by rw [nought_len]; omega)
            rw [patch_all (by rw [nought_len]; omega)] at hbo
            have hfr := Fr.setCells (F := fun _ => False) (b := g4) (vs := cellsB x.bytes) (o := 0) (.inr (by have := HG.out.h; omega)) (HG.out.f wB (Fr.refl _ _))
            have HQ := Lib.hid (And.intro hq (And.intro hbo hfr))
            have HST := Lib.hid hst
            clear hst hq hbo hfr h1 h2 h3 h4
            go_wp2_with (first | (refine wpList_load_want (by rfl) 26 _ rfl g2 0 rfl (cellsB x.bytes) _ q0.out hup rfl hinfo ?_) | (refine wpList_store_mid rfl 26 _ _ rfl g4 0 (cellsB x.bytes).toArray rfl rfl (HQ.out.1.there (by simp [cellsB_len, nought_len, HLL.out])) (by rw [infoPage]; simp [cellsB_len, HLL.out]) (all_oneCell_toArray (cellsB_one _)) ?_))
            refine bodyPost_ret (results_page2 rfl _ _ g4 x.bytes (.bool true) rfl rfl HLL.out HQ.out.2.1) rfl ⟨by rw [HST.out], by rw [HST.out]; exact HK.out, HQ.out.2.2⟩
  case rest =>
    obtain ⟨Lo, z10, e9, n12, rfl, rfl, rfl, HMid, HFc⟩ := hcut
    obtain ⟨kd, nx, A5, n5, c5, s5, ho, hn12, hn5, hs5, hkn, hb8, hb11, hc5, hR5⟩ := HMid.out
    have HM := Lib.hid (And.intro ho (And.intro hn5 (And.intro hs5 (And.intro hkn (And.intro hb8 (And.intro hb11 (And.intro hc5 hR5)))))))
    have hF6 : Fr (fun q => g6 < q) wB wc := HFc.out.mono (fun _ _ q => by have := HG.out.h; rcases q with q | q <;> omega)
    have HF6 := Lib.hid hF6
    have kc3 := HG.out.a_.keep hF6 (by have := HG.out.h; omega)
    have c30 : wc.cell? ⟨g3, 0, none⟩ = some (.int .i64 a.kd) := (kc3.cell 0).trans rfl
    have c33 : wc.cell? ⟨g3, 3, none⟩ = some (.slice A nb c) := (kc3.cell 3).trans rfl
    clear kc3 hF6 ho hn5 hs5 hkn hb8 hb11 hc5 hR5 HMid e0
    subst hn12
    go_upto_region 26 with (fail)
    go_cut [116] (fun s116 wx => s116 = .bool (decide (a.kd ≤ 2 ∧ 400 < nb)) ∧ wc = wx)
    case first =>
      by_cases h2 : a.kd ≤ 2
      · by_cases h4 : 400 < nb
        · have h4a : (400 : Int) < (nb : Int) := by omega
          have h4b : decide ((400 : Int) < (nb : Int)) = true := decide_eq_true h4a
          have HD := Lib.hid (decide_eq_true (p := a.kd ≤ 2 ∧ 400 < nb) ⟨h2, h4⟩)
          go_wp2_with fail
          go_meet
          exact ⟨congrArg Value.bool HD.out.symm, rfl⟩
        · have h4a : ¬ ((400 : Int) < (nb : Int)) := by omega
          have h4b : decide ((400 : Int) < (nb : Int)) = false := decide_eq_false h4a
          have HD := Lib.hid (decide_eq_false (p := a.kd ≤ 2 ∧ 400 < nb) (by omega))
          go_wp2_with fail
          go_meet
          exact ⟨congrArg Value.bool HD.out.symm, rfl⟩
      · have HD := Lib.hid (decide_eq_false (p := a.kd ≤ 2 ∧ 400 < nb) (by omega))
        go_wp2_with fail
        go_meet
        exact ⟨congrArg Value.bool HD.out.symm, rfl⟩
    case rest =>
      rename_i wd
      obtain ⟨rfl, rfl⟩ := hcut
      obtain ⟨S1, hS1⟩ : ∃ S : ByteArray, S = ⟨(a.b ++ [7]).toArray⟩ := ⟨_, rfl⟩
      obtain ⟨S2, hS2⟩ : ∃ S : ByteArray, S = ⟨a.b.toArray⟩ := ⟨_, rfl⟩
      have hS12 : S2 ++ (⟨#[7]⟩ : ByteArray) = S1 := by rw [hS1, hS2]; apply ByteArray.ext; simp
      have hsz : S2.size = nb := by rw [hS2, HG.out.hn]; show (a.b.toArray).size = _; simp
      have HCV : Hid (∀ W, Fr (fun _ => False) wc W → (convert 34 9 (.slice Ao (nb + 1) co)).run Try.prog W = .ok (.string S1) W ∧ (convert 34 9 (.slice A nb c)).run Try.prog W = .ok (.string S2) W) := Lib.hid fun W f => by
        have fo : Fr (fun q => q = g8 ∨ q = g11) wB W := HFc.out.trans f (fun _ _ q => q.elim)
        have h1 : Rd W Ao (nb + 1) (a.b ++ [7]) := (Rd.of_own HG.out.own).keep fo (fun ad e q => by
          have h := (own_ge HG.out.own (b := ad.block) (by rw [e]; rfl)).1
          have := HG.out.h
          rcases q with q | q <;> omega)
        have h2 : Rd W A nb a.b := HG.out.rd W (HF6.out.trans f (fun _ _ q => q.elim))
        rw [hS1, hS2]
        exact ⟨conv_string 34 9 5 h1 Try.underlying34 Try.underlying5 Try.underlying9, conv_string 34 9 5 h2 Try.underlying34 Try.underlying5 Try.underlying9⟩
      have HN := Lib.hid HG.out.hn
      have hnn : noOf x a = e9 := HM.out.1.e.symm
      have HNN := Lib.hid hnn
      have hq1 : ¬ 9223372036854775807 < S2.size + 1 := by omega
      clear hS1 hS2 hnn
      by_cases hB : a.kd ≤ 2 ∧ 400 < nb
      · have hno : no1 x a = 3 := by unfold no1; rw [if_pos ⟨hB.1, by rw [← HN.out]; exact hB.2⟩]
        have he : e9 = 3 := by rw [← HNN.out]; unfold noOf; rw [hno]; rfl
        subst he
        have hdt : decide (a.kd ≤ 2 ∧ 400 < nb) = true := decide_eq_true hB
        obtain ⟨cv1, cv2⟩ := HCV.out wc (Fr.refl _ _)
        rw [hdt]
        have hne : noOf x a ≠ 0 := by rw [HNN.out]; decide
        clear hB hdt hno
        obtain ⟨hlo, rfl⟩ := HM.out.1.bad (by rw [← HNN.out]; exact hne)
        have hlen := HM.out.1.len
        have hstep : x.step a = x := by unfold PD.step; rw [if_neg hne]
        have HST := Lib.hid (And.intro hstep hlo)
        have HEQ : Hid (∀ W, (Op.equalIn 10000 26 (.agg (cellsB Lo).toArray) (.agg (cellsB Lo).toArray)).run Try.prog W = .ok true W) := Lib.hid (fun W => page_is Lo hlen W)
        have hil : (Try.prog.info? 26).map (·.size) = some (cellsB Lo).length := by rw [infoPage, cellsB_len, hlen]
        have HPP : Hid (∀ W, Fr (fun q => q = g4) wc W → W.rangeAt g2 0 (cellsB x.bytes) ∧ W.rangeAt g8 0 (cellsB Lo)) := Lib.hid fun W f => ⟨page_range (((HG.out.p.keep HF6.out (by have := HG.out.h; omega)).keep (Fr.refl (fun _ => False) wc) (fun q => q)).keep f (by have := HG.out.h; omega)) HLL.out, page_range ((HM.out.2.2.2.2.1.keep (Fr.refl (fun _ => False) wc) (fun q => q)).keep f (by have := HG.out.h; omega)) hlen⟩
        have hq4 := (HG.out.q.keep HF6.out (by have := HG.out.h; omega)).keep (Fr.refl (fun _ => False) wc) (fun q => q)
        have hqd : Blk wc.drew g4 26 (cellsB (nought 512)).toArray := hq4
        have hbo := hqd.over (o := 0) (m := x.bytes) (by have := HLL.out; rw [nought_len]; omega)
        rw [patch_all (by have := HLL.out; rw [nought_len]; omega)] at hbo
        have hfr := Fr.setCells (F := fun _ => False) (b := g4) (vs := cellsB x.bytes) (o := 0) (.inr (by have := HG.out.h; omega)) (HG.out.f wc (HF6.out.trans (Fr.refl (fun _ => False) wc) (fun _ _ q => q.elim))).drew
        have HQ4 := Lib.hid (And.intro hq4 (And.intro hbo hfr))
        clear hlo hstep hq4 hqd hbo hfr hne
        go_upto_region 35 with (fail)
        refine wp_region_held_drew (S := fun w' => Fr (fun q => q = g4) wc w') (by kernel_rfl) ((Fr.refl _ _).drew) (fun hS0 => ?_)
        refine anyH_take 0 141 (av x.bytes) rfl rfl (by kernel_rfl) (by kernel_rfl) (by kernel_rfl) (fun _ _ _ h => h) (yieldsIf_load_mid (by rfl) _ _ rfl _ _ rfl _ _ (fun w' f => (HPP.out w' f).1) hup rfl hinfo) hS0 ?_
        (simp only [List.setIfInBounds_toArray, List.set_cons_zero, List.set_cons_succ])
        refine anyH_take 1 142 (av Lo) rfl rfl (by kernel_rfl) (by kernel_rfl) (by kernel_rfl) (fun _ _ _ h => h) (yieldsIf_load_mid (by rfl) _ _ rfl _ _ rfl _ _ (fun w' f => (HPP.out w' f).2) hup rfl hil) hS0 ?_
        (simp only [List.setIfInBounds_toArray, List.set_cons_zero, List.set_cons_succ])
        refine anyH_take 2 143 (av Lo) rfl rfl (by kernel_rfl) (by kernel_rfl) (by kernel_rfl) (fun _ _ _ h => h) (.inl ⟨by rfl, fun w'' hS => by rw [HST.out.2]; exact build_zero_op rfl⟩) hS0 ?_
        (simp only [List.setIfInBounds_toArray, List.set_cons_zero, List.set_cons_succ])
        refine anyH_take 3 144 (.bool true) rfl rfl (by kernel_rfl) (by kernel_rfl) (by kernel_rfl) (fun _ _ _ h => h) (.inl ⟨by rfl, fun w'' hS => by have q0 := HEQ.out w''; go_simp⟩) hS0 ?_
        (simp only [List.setIfInBounds_toArray, List.set_cons_zero, List.set_cons_succ])
        refine anyH_take 4 145 (.bool true) rfl rfl (by kernel_rfl) (by kernel_rfl) (by kernel_rfl) (fun _ _ _ h => h) (.inl ⟨by rfl, fun w'' hS => by go_simp⟩) hS0 ?_
        (simp only [List.setIfInBounds_toArray, List.set_cons_zero, List.set_cons_succ])
        refine anyH_take 5 146 (.int .i64 0) rfl rfl (by kernel_rfl) (by kernel_rfl) (by kernel_rfl) (fun _ _ _ h => h) (.inl ⟨by rfl, fun w'' hS => by go_simp⟩) hS0 ?_
        (simp only [List.setIfInBounds_toArray, List.set_cons_zero, List.set_cons_succ])
        refine anyH_take 6 147 (.bool true) rfl rfl (by kernel_rfl) (by kernel_rfl) (by kernel_rfl) (fun _ _ _ h => h) (.inl ⟨by rfl, fun w'' hS => by go_simp⟩) hS0 ?_
        (simp only [List.setIfInBounds_toArray, List.set_cons_zero, List.set_cons_succ])
        refine anyH_take 7 148 (.bool true) rfl rfl (by kernel_rfl) (by kernel_rfl) (by kernel_rfl) (fun _ _ _ h => h) (.inl ⟨by rfl, fun w'' hS => by go_simp⟩) hS0 ?_
        (simp only [List.setIfInBounds_toArray, List.set_cons_zero, List.set_cons_succ])
        refine anyH_skip 8 _ (by kernel_rfl) rfl rfl (by rfl) (run_store_mid 26 _ _ rfl g4 0 (cellsB x.bytes).toArray rfl rfl (Blk.there (w := wc.drew) HQ4.out.1 (by simp [cellsB_len, nought_len, HLL.out])) (by rw [infoPage]; simp [cellsB_len, HLL.out]) (all_oneCell_toArray (cellsB_one _))) (Fr.setCells (F := fun q => q = g4) (.inl rfl) hS0) ?_
        refine anyH_take 9 5 (.bool true) rfl rfl (by kernel_rfl) (by kernel_rfl) (by kernel_rfl) (fun _ _ _ h => h) (.inl ⟨by rfl, fun w'' hS => by go_simp⟩) (Fr.setCells (F := fun q => q = g4) (b := g4) (vs := cellsB x.bytes) (o := 0) (.inl rfl) hS0) ?_
        (simp only [List.setIfInBounds_toArray, List.set_cons_zero, List.set_cons_succ])
        refine wpAnyH_done (by kernel_rfl) ?_ _
        go_wp2_with fail
        refine bodyPost_ret (results_page2 rfl _ _ g4 x.bytes (.bool true) rfl rfl HLL.out HQ4.out.2.1) rfl ⟨by rw [HST.out.1], by rw [HST.out.1]; exact HK.out, HQ4.out.2.2⟩
      · have hno : no1 x a = no0 x a := by unfold no1; rw [if_neg (by rw [← HN.out]; exact hB)]
        have hdt : decide (a.kd ≤ 2 ∧ 400 < nb) = false := decide_eq_false hB
        obtain ⟨cv1, cv2⟩ := HCV.out wc (Fr.refl _ _)
        rw [hdt]
        have HNO := Lib.hid (And.intro hno hdt)
        clear hno hdt hB
        obtain ⟨qn, hqn⟩ : ∃ q, q = no0 x a := ⟨_, rfl⟩
        rw [← hqn]
        by_cases hq : qn = 0
        · subst hq
          have HQN := Lib.hid hqn
          obtain ⟨Z, hZ⟩ : ∃ Z, Z = 12 + 4 * s5.length + tot s5 := ⟨_, rfl⟩
          have hwb := want_bounds HK.out a (by rw [← HN.out]; exact hb)
          rw [← HM.out.2.2.1] at hwb
          have CZ := Size_any (k := kd) (n := nx) (c := c5) HM.out.2.2.2.2.2.2.2 (by rw [← HM.out.2.1]; exact HM.out.2.2.2.2.2.2.1) hwb.1 (by omega)
          rw [← hZ, ← HM.out.2.1] at CZ
          have hZw : (x.want a).size = Z := by rw [hZ, HM.out.2.2.1]; rfl
          have HZ := Lib.hid hZw
          have hb11 := HM.out.2.2.2.2.2.1
          have d0 : wc.cell? ⟨g11, 0, none⟩ = some (.int .i64 kd) := (hb11.cell 0).trans rfl
          have d1 : wc.cell? ⟨g11, 1, none⟩ = some (.int .i64 nx) := (hb11.cell 1).trans rfl
          have d2 : wc.cell? ⟨g11, 2, none⟩ = some (.slice A5 n5 c5) := (hb11.cell 2).trans rfl
          clear hb11 hZ hZw hwb cv1 cv2 hqn c30 c33
          go_wp2_with fail
          refine CZ.mono ?_
          rintro e wz ⟨rfl, fz⟩
          have HFz := Lib.hid fz
          obtain ⟨cv1, cv2⟩ := HCV.out wz fz
          have kc3 := (HG.out.a_.keep HF6.out (by have := HG.out.h; omega)).keep fz (fun q => q)
          have c30 : wz.cell? ⟨g3, 0, none⟩ = some (.int .i64 a.kd) := (kc3.cell 0).trans rfl
          have c33 : wz.cell? ⟨g3, 3, none⟩ = some (.slice A nb c) := (kc3.cell 3).trans rfl
          clear d0 d1 d2 CZ kc3 fz
          by_cases hz : 512 < Z
          · have he : e9 = 8 := by rw [← HNN.out]; unfold noOf; rw [HNO.out.1, ← HQN.out, if_pos ⟨rfl, by rw [HZ.out]; exact hz⟩]
            subst he
            have hne : noOf x a ≠ 0 := by rw [HNN.out]; decide
            have hzi : (512 : Int) < (Z : Int) := by omega
            have hzd : decide ((512 : Int) < (Z : Int)) = true := decide_eq_true hzi
            clear hz
            obtain ⟨hlo, rfl⟩ := HM.out.1.bad (by rw [← HNN.out]; exact hne)
            have hlen := HM.out.1.len
            have hstep : x.step a = x := by unfold PD.step; rw [if_neg hne]
            have HST := Lib.hid (And.intro hstep hlo)
            have HEQ : Hid (∀ W, (Op.equalIn 10000 26 (.agg (cellsB Lo).toArray) (.agg (cellsB Lo).toArray)).run Try.prog W = .ok true W) := Lib.hid (fun W => page_is Lo hlen W)
            have hil : (Try.prog.info? 26).map (·.size) = some (cellsB Lo).length := by rw [infoPage, cellsB_len, hlen]
            have HPP : Hid (∀ W, Fr (fun q => q = g4) wz W → W.rangeAt g2 0 (cellsB x.bytes) ∧ W.rangeAt g8 0 (cellsB Lo)) := Lib.hid fun W f => ⟨page_range (((HG.out.p.keep HF6.out (by have := HG.out.h; omega)).keep HFz.out (fun q => q)).keep f (by have := HG.out.h; omega)) HLL.out, page_range ((HM.out.2.2.2.2.1.keep HFz.out (fun q => q)).keep f (by have := HG.out.h; omega)) hlen⟩
            have hq4 := (HG.out.q.keep HF6.out (by have := HG.out.h; omega)).keep HFz.out (fun q => q)
            have hqd : Blk wz.drew g4 26 (cellsB (nought 512)).toArray := hq4
            have hbo := hqd.over (o := 0) (m := x.bytes) (by have := HLL.out; rw [nought_len]; omega)
            rw [patch_all (by have := HLL.out; rw [nought_len]; omega)] at hbo
            have hfr := Fr.setCells (F := fun _ => False) (b := g4) (vs := cellsB x.bytes) (o := 0) (.inr (by have := HG.out.h; omega)) (HG.out.f wz (HF6.out.trans HFz.out (fun _ _ q => q.elim))).drew
            have HQ4 := Lib.hid (And.intro hq4 (And.intro hbo hfr))
            clear hlo hstep hq4 hqd hbo hfr hne
            go_upto_region 35 with (fail)
            refine wp_region_held_drew (S := fun w' => Fr (fun q => q = g4) wz w') (by kernel_rfl) ((Fr.refl _ _).drew) (fun hS0 => ?_)
            refine anyH_take 0 141 (av x.bytes) rfl rfl (by kernel_rfl) (by kernel_rfl) (by kernel_rfl) (fun _ _ _ h => h) (yieldsIf_load_mid (by rfl) _ _ rfl _ _ rfl _ _ (fun w' f => (HPP.out w' f).1) hup rfl hinfo) hS0 ?_
            (simp only [List.setIfInBounds_toArray, List.set_cons_zero, List.set_cons_succ])
            refine anyH_take 1 142 (av Lo) rfl rfl (by kernel_rfl) (by kernel_rfl) (by kernel_rfl) (fun _ _ _ h => h) (yieldsIf_load_mid (by rfl) _ _ rfl _ _ rfl _ _ (fun w' f => (HPP.out w' f).2) hup rfl hil) hS0 ?_
            (simp only [List.setIfInBounds_toArray, List.set_cons_zero, List.set_cons_succ])
            refine anyH_take 2 143 (av Lo) rfl rfl (by kernel_rfl) (by kernel_rfl) (by kernel_rfl) (fun _ _ _ h => h) (.inl ⟨by rfl, fun w'' hS => by rw [HST.out.2]; exact build_zero_op rfl⟩) hS0 ?_
            (simp only [List.setIfInBounds_toArray, List.set_cons_zero, List.set_cons_succ])
            refine anyH_take 3 144 (.bool true) rfl rfl (by kernel_rfl) (by kernel_rfl) (by kernel_rfl) (fun _ _ _ h => h) (.inl ⟨by rfl, fun w'' hS => by have q0 := HEQ.out w''; go_simp⟩) hS0 ?_
            (simp only [List.setIfInBounds_toArray, List.set_cons_zero, List.set_cons_succ])
            refine anyH_take 4 145 (.bool true) rfl rfl (by kernel_rfl) (by kernel_rfl) (by kernel_rfl) (fun _ _ _ h => h) (.inl ⟨by rfl, fun w'' hS => by go_simp⟩) hS0 ?_
            (simp only [List.setIfInBounds_toArray, List.set_cons_zero, List.set_cons_succ])
            refine anyH_take 5 146 (.int .i64 0) rfl rfl (by kernel_rfl) (by kernel_rfl) (by kernel_rfl) (fun _ _ _ h => h) (.inl ⟨by rfl, fun w'' hS => by go_simp⟩) hS0 ?_
            (simp only [List.setIfInBounds_toArray, List.set_cons_zero, List.set_cons_succ])
            refine anyH_take 6 147 (.bool true) rfl rfl (by kernel_rfl) (by kernel_rfl) (by kernel_rfl) (fun _ _ _ h => h) (.inl ⟨by rfl, fun w'' hS => by go_simp⟩) hS0 ?_
            (simp only [List.setIfInBounds_toArray, List.set_cons_zero, List.set_cons_succ])
            refine anyH_take 7 148 (.bool true) rfl rfl (by kernel_rfl) (by kernel_rfl) (by kernel_rfl) (fun _ _ _ h => h) (.inl ⟨by rfl, fun w'' hS => by go_simp⟩) hS0 ?_
            (simp only [List.setIfInBounds_toArray, List.set_cons_zero, List.set_cons_succ])
            refine anyH_skip 8 _ (by kernel_rfl) rfl rfl (by rfl) (run_store_mid 26 _ _ rfl g4 0 (cellsB x.bytes).toArray rfl rfl (Blk.there (w := wz.drew) HQ4.out.1 (by simp [cellsB_len, nought_len, HLL.out])) (by rw [infoPage]; simp [cellsB_len, HLL.out]) (all_oneCell_toArray (cellsB_one _))) (Fr.setCells (F := fun q => q = g4) (.inl rfl) hS0) ?_
            refine anyH_take 9 5 (.bool true) rfl rfl (by kernel_rfl) (by kernel_rfl) (by kernel_rfl) (fun _ _ _ h => h) (.inl ⟨by rfl, fun w'' hS => by go_simp⟩) (Fr.setCells (F := fun q => q = g4) (b := g4) (vs := cellsB x.bytes) (o := 0) (.inl rfl) hS0) ?_
            (simp only [List.setIfInBounds_toArray, List.set_cons_zero, List.set_cons_succ])
            refine wpAnyH_done (by kernel_rfl) ?_ _
            go_wp2_with fail
            refine bodyPost_ret (results_page2 rfl _ _ g4 x.bytes (.bool true) rfl rfl HLL.out HQ4.out.2.1) rfl ⟨by rw [HST.out.1], by rw [HST.out.1]; exact HK.out, HQ4.out.2.2⟩
          · have he : e9 = 0 := by rw [← HNN.out]; unfold noOf; rw [HNO.out.1, ← HQN.out, if_neg (by rw [HZ.out]; omega)]
            subst he
            have hzi : ¬ ((512 : Int) < (Z : Int)) := by omega
            have hzd : decide ((512 : Int) < (Z : Int)) = false := decide_eq_false hzi
            clear hz
            have hg := HM.out.1.good rfl
            have hlen := HM.out.1.len
            have hn00 : noOf x a = 0 := HNN.out
            have hstep : x.step a = x.want a := by unfold PD.step; rw [if_pos hn00]
            have hok : (x.want a).Ok := by rw [← hstep]; exact step_ok HK.out a
            obtain ⟨hkd, hnx⟩ := HM.out.2.2.2.1 hn00
            have CByt : ∀ W, Fr (fun _ => False) wz W → Calls Try.prog 49 #[.agg #[.int .i64 kd, .int .i64 nx, .slice A5 n5 c5]] W fun e w' => e = .returned (av Lo) ∧ Fr (fun _ => False) W w' := fun W f => by
              have hrw : RecsAt W A5 s5 := HM.out.2.2.2.2.2.2.2.new (HFz.out.trans f (fun _ _ q => q))
              have hk2 : (PD.mk (x.want a).kind (x.want a).next (x.want a).s).Ok := hok
              have hbb : (PD.mk (x.want a).kind (x.want a).next (x.want a).s).bytes = Lo := by rw [hg.1, hstep]
              rw [← HM.out.2.2.1] at hk2 hbb
              have h := Bytes_any (c := c5) hk2 hrw (by rw [← HM.out.2.1]; exact HM.out.2.2.2.2.2.2.1)
              rw [← HM.out.2.1, ← hkd, ← hnx, hbb] at h
              exact h
            have HByt := Lib.hid CByt
            have HFree : Hid (∀ W, Fr (fun _ => False) wz W → Calls Try.prog 44 #[.agg #[.int .i64 x.kind, .int .i64 x.next, .slice A1 n1 c1]] W fun e w' => e = .returned (.int .i64 (firstE x.s)) ∧ Fr (fun _ => False) W w') := Lib.hid fun W f => by
              have hk125 := HK.out.many
              have h := Free_any (k := (x.kind : Int)) (n := (x.next : Int)) (c := c1) (HG.out.recs W ((HF6.out.trans HFz.out (fun _ _ q => q.elim)).trans f (fun _ _ q => q.elim))).at_ (by rw [← HG.out.hn1]; exact HG.out.hnc1) (by omega)
              rw [← HG.out.hn1] at h
              exact h
            have HST := Lib.hid (And.intro hstep (And.intro hg (step_ok HK.out a)))
            have HEQ : Hid (∀ W, (Op.equalIn 10000 26 (.agg (cellsB Lo).toArray) (.agg (cellsB Lo).toArray)).run Try.prog W = .ok true W) := Lib.hid (fun W => page_is Lo hlen W)
            have hil : (Try.prog.info? 26).map (·.size) = some (cellsB Lo).length := by rw [infoPage, cellsB_len, hlen]
            have hupr := Try.underlying74
            have HPP : Hid (∀ W, Fr (fun q => q = g4) wz W → W.rangeAt g8 0 (cellsB Lo) ∧ W.rangeAt g11 0 [.int .i64 kd, .int .i64 nx, .slice A5 n5 c5] ∧ W.rangeAt g6 0 [.int .i64 x.kind, .int .i64 x.next, .slice A1 n1 c1] ∧ W.cell? ⟨g3, 0, none⟩ = some (.int .i64 a.kd)) := Lib.hid fun W f => by
              have hh := HG.out.h
              have h11 := (HM.out.2.2.2.2.2.1.keep HFz.out (fun q => q)).keep f (by omega)
              have h6 := ((HG.out.r.keep HF6.out (by omega)).keep HFz.out (fun q => q)).keep f (by omega)
              have h3 := ((HG.out.a_.keep HF6.out (by omega)).keep HFz.out (fun q => q)).keep f (by omega)
              exact ⟨page_range ((HM.out.2.2.2.2.1.keep HFz.out (fun q => q)).keep f (by omega)) hlen, fun k u hk => by rw [Nat.zero_add, h11.cell, ← hk]; simp, fun k u hk => by rw [Nat.zero_add, h6.cell, ← hk]; simp, (h3.cell 0).trans rfl⟩
            have HLo := Lib.hid hlen
            have HQ4 : Hid (∀ W, Fr (fun _ => False) wz W → Blk W g4 26 (cellsB (nought 512)).toArray ∧ Blk (W.setCells g4 0 (cellsB Lo)) g4 26 (cellsB Lo).toArray ∧ Fr (fun _ => False) w (W.setCells g4 0 (cellsB Lo))) := Lib.hid fun W f => by
              have hq4 := ((HG.out.q.keep HF6.out (by have := HG.out.h; omega)).keep HFz.out (fun q => q)).keep f (fun q => q)
              have hbo := hq4.over (o := 0) (m := Lo) (by rw [nought_len]; omega)
              rw [patch_all (by rw [nought_len]; omega)] at hbo
              exact ⟨hq4, hbo, Fr.setCells (F := fun _ => False) (b := g4) (vs := cellsB Lo) (o := 0) (.inr (by have := HG.out.h; omega)) (HG.out.f W ((HF6.out.trans HFz.out (fun _ _ q => q.elim)).trans f (fun _ _ q => q.elim)))⟩
            clear hg hlen hn00 hstep hok hkd hnx CByt
            go_upto_region 36 with (fail)
            refine wp_region_held_drew (S := fun w' => Fr (fun q => q = g4) wz w') (by kernel_rfl) ((Fr.refl _ _).drew) (fun hS0 => ?_)
            refine anyH_take 0 149 (av Lo) rfl rfl (by kernel_rfl) (by kernel_rfl) (by kernel_rfl) (fun _ _ _ h => h) (yieldsIf_load_mid (by rfl) _ _ rfl _ _ rfl _ _ (fun w' f => (HPP.out w' f).1) hup rfl hil) hS0 ?_
            (simp only [List.setIfInBounds_toArray, List.set_cons_zero, List.set_cons_succ])
            refine anyH_take 1 150 (av Lo) rfl rfl (by kernel_rfl) (by kernel_rfl) (by kernel_rfl) (fun _ _ _ h => h) (yieldsIf_load_mid (by rfl) _ _ rfl _ _ rfl _ _ (fun w' f => (HPP.out w' f).1) hup rfl hil) hS0 ?_
            (simp only [List.setIfInBounds_toArray, List.set_cons_zero, List.set_cons_succ])
            refine anyH_take 2 151 (.agg #[.int .i64 kd, .int .i64 nx, .slice A5 n5 c5]) rfl rfl (by kernel_rfl) (by kernel_rfl) (by kernel_rfl) (fun _ _ _ h => h) (yieldsIf_load_mid (by rfl) _ _ rfl _ _ rfl _ _ (fun w' f => (HPP.out w' f).2.1) hupr rfl infoRef) hS0 ?_
            (simp only [List.setIfInBounds_toArray, List.set_cons_zero, List.set_cons_succ])
            refine anyH_enter 3 152 (by kernel_rfl) rfl rfl (by rfl) (by go_simp) ((HByt.out _ ((Fr.refl (fun _ => False) _).drew)).mono ?_)
            rintro e wl ⟨rfl, fwl⟩
            have fvl : Fr (fun _ => False) wz wl := ((Fr.refl (fun _ => False) wz).drew).trans fwl (fun _ _ q => q)
            have swl : Fr (fun q => q = g4) wz wl := fvl.mono (fun _ _ q => q.elim)
            refine ⟨_, rfl, swl, ?_⟩
            (simp only [List.setIfInBounds_toArray, List.set_cons_zero, List.set_cons_succ])
            refine anyH_take 4 153 (.bool true) rfl rfl (by kernel_rfl) (by kernel_rfl) (by kernel_rfl) (fun _ _ _ h => h) (.inl ⟨by rfl, fun w'' hS => by have q0 := HEQ.out w''; go_simp⟩) swl ?_
            (simp only [List.setIfInBounds_toArray, List.set_cons_zero, List.set_cons_succ])
            refine anyH_take 5 154 (.bool true) rfl rfl (by kernel_rfl) (by kernel_rfl) (by kernel_rfl) (fun _ _ _ h => h) (.inl ⟨by rfl, fun w'' hS => by go_simp⟩) swl ?_
            (simp only [List.setIfInBounds_toArray, List.set_cons_zero, List.set_cons_succ])
            refine anyH_take 6 155 (.pointer (some ⟨g3, 0, none⟩)) rfl rfl (by kernel_rfl) (by kernel_rfl) (by kernel_rfl) (fun _ _ _ h => h) (.inl ⟨by rfl, fun w'' hS => by go_simp⟩) swl ?_
            (simp only [List.setIfInBounds_toArray, List.set_cons_zero, List.set_cons_succ])
            refine anyH_take 7 156 (.int .i64 a.kd) rfl rfl (by kernel_rfl) (by kernel_rfl) (by kernel_rfl) (fun _ _ _ h => h) (.inl ⟨by rfl, fun w'' hS => by have q0 := (HPP.out w'' hS).2.2.2; go_simp⟩) swl ?_
            (simp only [List.setIfInBounds_toArray, List.set_cons_zero, List.set_cons_succ])
            by_cases hk1 : a.kd = 1
            · have hkb : (a.kd != 1) = false := by simp [hk1]
              have hzz := HST.out.2.1.2 hk1
              subst hzz
              clear hk1
              refine anyH_take 8 157 (.bool false) rfl rfl (by kernel_rfl) (by kernel_rfl) (by kernel_rfl) (fun _ _ _ h => h) (.inl ⟨by rfl, fun w'' hS => by go_simp⟩) swl ?_
              (simp only [List.setIfInBounds_toArray, List.set_cons_zero, List.set_cons_succ])
              refine anyH_take 9 158 (.bool false) rfl rfl (by kernel_rfl) (by kernel_rfl) (by kernel_rfl) (fun _ _ _ h => h) (.inl ⟨by rfl, fun w'' hS => by go_simp⟩) swl ?_
              (simp only [List.setIfInBounds_toArray, List.set_cons_zero, List.set_cons_succ])
              refine anyH_take 10 159 (.int .i64 (firstE x.s : Nat)) rfl rfl (by kernel_rfl) (by kernel_rfl) (by kernel_rfl) (fun _ _ _ h => h) (.inl ⟨by rfl, fun w'' hS => by go_simp⟩) swl ?_
              (simp only [List.setIfInBounds_toArray, List.set_cons_zero, List.set_cons_succ])
              refine anyH_take 11 160 (.agg #[.int .i64 x.kind, .int .i64 x.next, .slice A1 n1 c1]) rfl rfl (by kernel_rfl) (by kernel_rfl) (by kernel_rfl) (fun _ _ _ h => h) (yieldsIf_load_mid (by rfl) _ _ rfl _ _ rfl _ _ (fun w' f => (HPP.out w' f).2.2.1) hupr rfl infoRef) swl ?_
              (simp only [List.setIfInBounds_toArray, List.set_cons_zero, List.set_cons_succ])
              refine anyH_enter 12 161 (by kernel_rfl) rfl rfl (by rfl) (by go_simp) ((HFree.out _ fvl).mono ?_)
              rintro e wn ⟨rfl, fwn⟩
              have fvn := fvl.trans fwn (fun _ _ q => q)
              have swn : Fr (fun q => q = g4) wz wn := fvn.mono (fun _ _ q => q.elim)
              refine ⟨_, rfl, swn, ?_⟩
              (simp only [List.setIfInBounds_toArray, List.set_cons_zero, List.set_cons_succ])
              refine anyH_take 13 162 (.bool true) rfl rfl (by kernel_rfl) (by kernel_rfl) (by kernel_rfl) (fun _ _ _ h => h) (.inl ⟨by rfl, fun w'' hS => by go_simp⟩) swn ?_
              (simp only [List.setIfInBounds_toArray, List.set_cons_zero, List.set_cons_succ])
              refine anyH_take 14 163 (.bool true) rfl rfl (by kernel_rfl) (by kernel_rfl) (by kernel_rfl) (fun _ _ _ h => h) (.inl ⟨by rfl, fun w'' hS => by go_simp⟩) swn ?_
              (simp only [List.setIfInBounds_toArray, List.set_cons_zero, List.set_cons_succ])
              refine anyH_take 15 164 (.bool true) rfl rfl (by kernel_rfl) (by kernel_rfl) (by kernel_rfl) (fun _ _ _ h => h) (.inl ⟨by rfl, fun w'' hS => by go_simp⟩) swn ?_
              (simp only [List.setIfInBounds_toArray, List.set_cons_zero, List.set_cons_succ])
              refine anyH_skip 16 _ (by kernel_rfl) rfl rfl (by rfl) (run_store_mid 26 _ _ rfl g4 0 (cellsB Lo).toArray rfl rfl (Blk.there (HQ4.out wn fvn).1 (by simp [cellsB_len, nought_len, HLo.out])) (by rw [infoPage]; simp [cellsB_len, HLo.out]) (all_oneCell_toArray (cellsB_one _))) (Fr.setCells (F := fun q => q = g4) (.inl rfl) swn) ?_
              refine anyH_take 17 5 (.bool true) rfl rfl (by kernel_rfl) (by kernel_rfl) (by kernel_rfl) (fun _ _ _ h => h) (.inl ⟨by rfl, fun w'' hS => by go_simp⟩) (Fr.setCells (F := fun q => q = g4) (b := g4) (vs := cellsB Lo) (o := 0) (.inl rfl) swn) ?_
              (simp only [List.setIfInBounds_toArray, List.set_cons_zero, List.set_cons_succ])
              refine wpAnyH_done (by kernel_rfl) ?_ _
              go_wp2_with fail
              refine bodyPost_ret (results_page2 rfl _ _ g4 Lo (.bool true) rfl rfl HLo.out (HQ4.out wn fvn).2.1) rfl ⟨by rw [← HST.out.2.1.1], HST.out.2.2, (HQ4.out wn fvn).2.2⟩
            · have hkb : (a.kd != 1) = true := by simp [hk1]
              clear hk1
              refine anyH_take 8 157 (.bool true) rfl rfl (by kernel_rfl) (by kernel_rfl) (by kernel_rfl) (fun _ _ _ h => h) (.inl ⟨by rfl, fun w'' hS => by go_simp⟩) swl ?_
              (simp only [List.setIfInBounds_toArray, List.set_cons_zero, List.set_cons_succ])
              refine anyH_take 9 158 (.bool true) rfl rfl (by kernel_rfl) (by kernel_rfl) (by kernel_rfl) (fun _ _ _ h => h) (.inl ⟨by rfl, fun w'' hS => by go_simp⟩) swl ?_
              (simp only [List.setIfInBounds_toArray, List.set_cons_zero, List.set_cons_succ])
              refine anyH_take 10 159 undef rfl rfl (by kernel_rfl) (by kernel_rfl) (by kernel_rfl) (fun _ _ _ h => h) (.inr ⟨by rfl, rfl⟩) swl ?_
              (simp only [List.setIfInBounds_toArray, List.set_cons_zero, List.set_cons_succ])
              refine anyH_take 11 160 undef rfl rfl (by kernel_rfl) (by kernel_rfl) (by kernel_rfl) (fun _ _ _ h => h) (.inr ⟨by rfl, rfl⟩) swl ?_
              (simp only [List.setIfInBounds_toArray, List.set_cons_zero, List.set_cons_succ])
              refine anyH_take 12 161 undef rfl rfl (by kernel_rfl) (by kernel_rfl) (by kernel_rfl) (fun _ _ _ h => h) (.inr ⟨by rfl, rfl⟩) swl ?_
              (simp only [List.setIfInBounds_toArray, List.set_cons_zero, List.set_cons_succ])
              refine anyH_take 13 162 undef rfl rfl (by kernel_rfl) (by kernel_rfl) (by kernel_rfl) (fun _ _ _ h => h) (.inr ⟨by rfl, rfl⟩) swl ?_
              (simp only [List.setIfInBounds_toArray, List.set_cons_zero, List.set_cons_succ])
              refine anyH_take 14 163 (.bool true) rfl rfl (by kernel_rfl) (by kernel_rfl) (by kernel_rfl) (fun _ _ _ h => h) (.inl ⟨by rfl, fun w'' hS => by go_simp⟩) swl ?_
              (simp only [List.setIfInBounds_toArray, List.set_cons_zero, List.set_cons_succ])
              refine anyH_take 15 164 (.bool true) rfl rfl (by kernel_rfl) (by kernel_rfl) (by kernel_rfl) (fun _ _ _ h => h) (.inl ⟨by rfl, fun w'' hS => by go_simp⟩) swl ?_
              (simp only [List.setIfInBounds_toArray, List.set_cons_zero, List.set_cons_succ])
              refine anyH_skip 16 _ (by kernel_rfl) rfl rfl (by rfl) (run_store_mid 26 _ _ rfl g4 0 (cellsB Lo).toArray rfl rfl (Blk.there (HQ4.out wl fvl).1 (by simp [cellsB_len, nought_len, HLo.out])) (by rw [infoPage]; simp [cellsB_len, HLo.out]) (all_oneCell_toArray (cellsB_one _))) (Fr.setCells (F := fun q => q = g4) (.inl rfl) swl) ?_
              refine anyH_take 17 5 (.bool true) rfl rfl (by kernel_rfl) (by kernel_rfl) (by kernel_rfl) (fun _ _ _ h => h) (.inl ⟨by rfl, fun w'' hS => by go_simp⟩) (Fr.setCells (F := fun q => q = g4) (b := g4) (vs := cellsB Lo) (o := 0) (.inl rfl) swl) ?_
              (simp only [List.setIfInBounds_toArray, List.set_cons_zero, List.set_cons_succ])
              refine wpAnyH_done (by kernel_rfl) ?_ _
              go_wp2_with fail
              refine bodyPost_ret (results_page2 rfl _ _ g4 Lo (.bool true) rfl rfl HLo.out (HQ4.out wl fvl).2.1) rfl ⟨by rw [← HST.out.2.1.1], HST.out.2.2, (HQ4.out wl fvl).2.2⟩
        · have he : e9 = qn := by rw [← HNN.out]; unfold noOf; rw [HNO.out.1, ← hqn, if_neg (fun h => hq h.1)]
          have hqb : (qn == 0) = false := by simp [hq]
          have hqc : (qn != 0) = true := by simp [hq]
          subst he
          have hne : noOf x a ≠ 0 := by rw [HNN.out]; exact hq
          clear hqn
          obtain ⟨hlo, rfl⟩ := HM.out.1.bad (by rw [← HNN.out]; exact hne)
          have hlen := HM.out.1.len
          have hstep : x.step a = x := by unfold PD.step; rw [if_neg hne]
          have HST := Lib.hid (And.intro hstep hlo)
          have HEQ : Hid (∀ W, (Op.equalIn 10000 26 (.agg (cellsB Lo).toArray) (.agg (cellsB Lo).toArray)).run Try.prog W = .ok true W) := Lib.hid (fun W => page_is Lo hlen W)
          have hil : (Try.prog.info? 26).map (·.size) = some (cellsB Lo).length := by rw [infoPage, cellsB_len, hlen]
          have HPP : Hid (∀ W, Fr (fun q => q = g4) wc W → W.rangeAt g2 0 (cellsB x.bytes) ∧ W.rangeAt g8 0 (cellsB Lo)) := Lib.hid fun W f => ⟨page_range (((HG.out.p.keep HF6.out (by have := HG.out.h; omega)).keep (Fr.refl (fun _ => False) wc) (fun q => q)).keep f (by have := HG.out.h; omega)) HLL.out, page_range ((HM.out.2.2.2.2.1.keep (Fr.refl (fun _ => False) wc) (fun q => q)).keep f (by have := HG.out.h; omega)) hlen⟩
          have hq4 := (HG.out.q.keep HF6.out (by have := HG.out.h; omega)).keep (Fr.refl (fun _ => False) wc) (fun q => q)
          have hqd : Blk wc.drew g4 26 (cellsB (nought 512)).toArray := hq4
          have hbo := hqd.over (o := 0) (m := x.bytes) (by have := HLL.out; rw [nought_len]; omega)
          rw [patch_all (by have := HLL.out; rw [nought_len]; omega)] at hbo
          have hfr := Fr.setCells (F := fun _ => False) (b := g4) (vs := cellsB x.bytes) (o := 0) (.inr (by have := HG.out.h; omega)) (HG.out.f wc (HF6.out.trans (Fr.refl (fun _ => False) wc) (fun _ _ q => q.elim))).drew
          have HQ4 := Lib.hid (And.intro hq4 (And.intro hbo hfr))
          clear hlo hstep hq4 hqd hbo hfr hne
          go_upto_region 35 with (fail)
          refine wp_region_held_drew (S := fun w' => Fr (fun q => q = g4) wc w') (by kernel_rfl) ((Fr.refl _ _).drew) (fun hS0 => ?_)
          refine anyH_take 0 141 (av x.bytes) rfl rfl (by kernel_rfl) (by kernel_rfl) (by kernel_rfl) (fun _ _ _ h => h) (yieldsIf_load_mid (by rfl) _ _ rfl _ _ rfl _ _ (fun w' f => (HPP.out w' f).1) hup rfl hinfo) hS0 ?_
          (simp only [List.setIfInBounds_toArray, List.set_cons_zero, List.set_cons_succ])
          refine anyH_take 1 142 (av Lo) rfl rfl (by kernel_rfl) (by kernel_rfl) (by kernel_rfl) (fun _ _ _ h => h) (yieldsIf_load_mid (by rfl) _ _ rfl _ _ rfl _ _ (fun w' f => (HPP.out w' f).2) hup rfl hil) hS0 ?_
          (simp only [List.setIfInBounds_toArray, List.set_cons_zero, List.set_cons_succ])
          refine anyH_take 2 143 (av Lo) rfl rfl (by kernel_rfl) (by kernel_rfl) (by kernel_rfl) (fun _ _ _ h => h) (.inl ⟨by rfl, fun w'' hS => by rw [HST.out.2]; exact build_zero_op rfl⟩) hS0 ?_
          (simp only [List.setIfInBounds_toArray, List.set_cons_zero, List.set_cons_succ])
          refine anyH_take 3 144 (.bool true) rfl rfl (by kernel_rfl) (by kernel_rfl) (by kernel_rfl) (fun _ _ _ h => h) (.inl ⟨by rfl, fun w'' hS => by have q0 := HEQ.out w''; go_simp⟩) hS0 ?_
          (simp only [List.setIfInBounds_toArray, List.set_cons_zero, List.set_cons_succ])
          refine anyH_take 4 145 (.bool true) rfl rfl (by kernel_rfl) (by kernel_rfl) (by kernel_rfl) (fun _ _ _ h => h) (.inl ⟨by rfl, fun w'' hS => by go_simp⟩) hS0 ?_
          (simp only [List.setIfInBounds_toArray, List.set_cons_zero, List.set_cons_succ])
          refine anyH_take 5 146 (.int .i64 0) rfl rfl (by kernel_rfl) (by kernel_rfl) (by kernel_rfl) (fun _ _ _ h => h) (.inl ⟨by rfl, fun w'' hS => by go_simp⟩) hS0 ?_
          (simp only [List.setIfInBounds_toArray, List.set_cons_zero, List.set_cons_succ])
          refine anyH_take 6 147 (.bool true) rfl rfl (by kernel_rfl) (by kernel_rfl) (by kernel_rfl) (fun _ _ _ h => h) (.inl ⟨by rfl, fun w'' hS => by go_simp⟩) hS0 ?_
          (simp only [List.setIfInBounds_toArray, List.set_cons_zero, List.set_cons_succ])
          refine anyH_take 7 148 (.bool true) rfl rfl (by kernel_rfl) (by kernel_rfl) (by kernel_rfl) (fun _ _ _ h => h) (.inl ⟨by rfl, fun w'' hS => by go_simp⟩) hS0 ?_
          (simp only [List.setIfInBounds_toArray, List.set_cons_zero, List.set_cons_succ])
          refine anyH_skip 8 _ (by kernel_rfl) rfl rfl (by rfl) (run_store_mid 26 _ _ rfl g4 0 (cellsB x.bytes).toArray rfl rfl (Blk.there (w := wc.drew) HQ4.out.1 (by simp [cellsB_len, nought_len, HLL.out])) (by rw [infoPage]; simp [cellsB_len, HLL.out]) (all_oneCell_toArray (cellsB_one _))) (Fr.setCells (F := fun q => q = g4) (.inl rfl) hS0) ?_
          refine anyH_take 9 5 (.bool true) rfl rfl (by kernel_rfl) (by kernel_rfl) (by kernel_rfl) (fun _ _ _ h => h) (.inl ⟨by rfl, fun w'' hS => by go_simp⟩) (Fr.setCells (F := fun q => q = g4) (b := g4) (vs := cellsB x.bytes) (o := 0) (.inl rfl) hS0) ?_
          (simp only [List.setIfInBounds_toArray, List.set_cons_zero, List.set_cons_succ])
          refine wpAnyH_done (by kernel_rfl) ?_ _
          go_wp2_with fail
          refine bodyPost_ret (results_page2 rfl _ _ g4 x.bytes (.bool true) rfl rfl HLL.out HQ4.out.2.1) rfl ⟨by rw [HST.out.1], by rw [HST.out.1]; exact HK.out, HQ4.out.2.2⟩
end
end Go.Proofs.Ytijdbngjnhhheaa
