/- couponlaw02.mixed. -/
import Derived.Test.YtbnegiiombnnaaaMth
import Derived.Test.YtbnegiiombnnaaaRw2
import Derived.Test.YtbnegiiombnnaaaLjoi
namespace Go.Proofs.Ytbnegiiombnnaaa
open Go.RowKit

theorem infoBss : (Try.prog.info? 52).map (fun i => (i.zero, i.size, i.bytes)) = some (some (.slice none 0 0), 1, 24) := by kernel_rfl
/-- A list of rows of bytes, none of whose blocks is 'own'. -/
def LstO (w : World) (own : Option Nat) (v : Value) (ls : List (List UInt8)) : Prop := ∃ vs, (∃ base, w.ownsRow base 25 1 v ls.length vs) ∧ Els w 0 own vs ls ∧ (v.ownBlock = none ∨ v.ownBlock ≠ own)
theorem LstO.keep {F : Nat → Prop} {w w' : World} {own : Option Nat} {v : Value} {ls : List (List UInt8)} (h : LstO w own v ls) (f : Fr F w w') (hF : ∀ j, F j → some j = own) : LstO w' own v ls := by
  obtain ⟨vs, ⟨base, h1⟩, h2, h3⟩ := h
  refine ⟨vs, ⟨base, own_keep h1 f (fun k hk q => ?_)⟩, h2.keep f (fun j _ hj q => hj (hF j q)), h3⟩
  rcases h3 with e | e
  · rw [e] at hk; cases hk
  · exact e (hk.trans (hF k q))
theorem LstO.new {w w' : World} {own : Option Nat} {v : Value} {ls : List (List UInt8)} (h : LstO w own v ls) (f : Fr (fun _ => False) w w') : LstO w' own v ls := h.keep f (fun _ q => q.elim)
theorem LstO.own {w : World} {own own' : Option Nat} {v : Value} {ls : List (List UInt8)} (h : LstO w own v ls) (ho : own' = own ∨ own' = some w.heap.size) (hz : Full ls) : LstO w own' v ls := by
  obtain ⟨vs, ⟨base, h1⟩, h2, h3⟩ := h
  refine ⟨vs, ⟨base, h1⟩, h2.own ho hz, ?_⟩
  rcases ho with rfl | rfl
  · exact h3
  · right
    intro q
    have := (h1.lt _ q).2
    omega
theorem LstO.of {w : World} {base : Nat} {own : Option Nat} {v : Value} {ls : List (List UInt8)} (h : Lst w base v ls) (ho : ∀ k, own = some k → k < base) : LstO w own v ls := by
  obtain ⟨vs, h1, h2⟩ := h
  refine ⟨vs, ⟨base, h1⟩, ⟨h2.1, fun i l hi => ?_⟩, ?_⟩
  · obtain ⟨A, c, k1, k2, k3, k5, k4⟩ := h2.2 i l hi
    refine ⟨A, c, k1, k2, k3, k5, fun ad e => ⟨Nat.zero_le _, fun q => ?_⟩⟩
    have := ho _ q
    have := (k4 ad e).1
    omega
  · cases hv : v.ownBlock with
    | none => exact .inl rfl
    | some k =>
      right
      intro q
      have h3 := (h1.lt k hv).1
      have h4 := ho k q.symm
      omega

theorem LstO.grow {w w' : World} {own own' : Option Nat} {v : Value} {ls : List (List UInt8)} (h : LstO w own v ls) (ho : own' = own ∨ own' = some w.heap.size) (hz : Full ls) (f : Fr (fun k => some k = own) w w') : LstO w' own' v ls := by
  obtain ⟨vs, ⟨base, h1⟩, h2, h3⟩ := h
  have hk : Els w' 0 own vs ls := h2.keep f (fun j _ hj q => hj q)
  have hn := h2.own ho hz
  refine ⟨vs, ⟨base, own_keep h1 f (fun k hk q => ?_)⟩, ⟨hk.1, fun i l hi => ?_⟩, ?_⟩
  · rcases h3 with e | e
    · rw [e] at hk; cases hk
    · exact e (hk.trans q)
  · obtain ⟨A, c, k1, k2, k3, k5, _⟩ := hk.2 i l hi
    obtain ⟨A2, c2, q1, _, _, _, q4⟩ := hn.2 i l hi
    rw [k1] at q1
    injection q1 with q1
    injection q1 with q1 _ _
    subst q1
    exact ⟨A, c, k1, k2, k3, k5, q4⟩
  · rcases ho with rfl | rfl
    · exact h3
    · right
      intro q
      have := (h1.lt _ q).2
      omega

/-- The law's rows' halves, a list for each. -/
def AllAt (w : World) (base : Nat) (v : Value) (hs : List (List (List UInt8))) : Prop := ∃ vs, w.ownsRow base 52 1 v hs.length vs ∧ vs.length = hs.length ∧ ∀ (i : Nat) ls, hs[i]? = some ls → ∃ u, vs[i]? = some u ∧ LstO w v.ownBlock u ls
theorem AllAt.new {w w' : World} {base : Nat} {v : Value} {hs : List (List (List UInt8))} (h : AllAt w base v hs) (f : Fr (fun _ => False) w w') : AllAt w' base v hs := by
  obtain ⟨vs, h1, h2, h3⟩ := h
  refine ⟨vs, own_keep h1 f (fun _ _ q => q), h2, fun i ls hi => ?_⟩
  obtain ⟨u, k1, k2⟩ := h3 i ls hi
  exact ⟨u, k1, k2.new f⟩
theorem AllAt.nil (w : World) (base : Nat) : AllAt w base (.slice none 0 0) [] := ⟨[], World.ownsRow_nil _ _ _ _, rfl, fun i ls hi => by simp at hi⟩
theorem AllAt.lt {w : World} {base : Nat} {v : Value} {hs : List (List (List UInt8))} (h : AllAt w base v hs) : ∀ k, v.ownBlock = some k → base ≤ k ∧ k < w.heap.size := by
  obtain ⟨vs, h1, _⟩ := h
  exact h1.lt
theorem AllAt.form {w : World} {base : Nat} {v : Value} {hs : List (List (List UInt8))} (h : AllAt w base v hs) : ∃ A c, v = .slice A hs.length c ∧ hs.length ≤ c ∧ c ≤ maxLen := by
  obtain ⟨vs, h1, _⟩ := h
  exact own_slice h1
section
variable {ops : Array Oper} {o : Oper} {a : Act} {Q : Exit → Act → World → Prop}
theorem wpList_append_all {rest : List Oper} {w : World} (hg : o.guard = none) (s x : Operand) (hop : o.op = Op.call { callee := Callee.builtin Builtin.append, args := #[s, x], argTypes := #[74, 74] })
    {base : Nat} {v u : Value} {hs : List (List (List UInt8))} {ls : List (List UInt8)} (hA : AllAt w base v hs) (hu : LstO w v.ownBlock u ls) {B : Nat} (hB : Blk w B 52 #[u]) (c : Nat) (hsv : a.eval s = v) (hx : a.eval x = .slice (some ⟨B, 0, none⟩) 1 c)
    (hf : ∀ l ∈ hs, Full l) (hf1 : Full ls) (hlen : hs.length ≤ 1000) (hbase : base ≤ w.heap.size)
    (hK : ∀ v' w', AllAt w' base v' (hs ++ [ls]) → w.grownBy w' v.ownBlock → wpList Try.prog ops Q rest (a.put o.dst v') w') : wpList Try.prog ops Q (o :: rest) a w := by
  obtain ⟨i0, hi, hq0, hq1, hq2⟩ := info_parts infoBss
  refine wpList_plain hg fun K hK' => ?_
  obtain ⟨vs, h1, h2, h3⟩ := hA
  have hone : u.oneCell' = true := by
    obtain ⟨us, ⟨bu, hu1⟩, _⟩ := hu
    obtain ⟨Au, mu, cu, rfl⟩ := own_form hu1
    rfl
  obtain ⟨v', w', hrun, g2, g3, _, g5⟩ := run_append_own_at (P := Try.prog) w base 74 o.type 52 i0 (.slice none 0 0) 1 24 Try.underlying74 hi hq0 hq1 hq2 (by rfl) (by omega) v hs.length vs h1 ⟨B, 0, none⟩ 1 c [u]
    (by rfl) (fun j q hj => by
      rw [Addr.add_lit, Nat.zero_add, hB.cell j]
      simpa using hj) (fun q hq => by rw [List.mem_singleton.1 hq]; exact hone) (by simp only [maxLen]; omega) (by omega) hbase
  have fr : Fr (fun k => some k = v.ownBlock) w w' := (Fr.refl _ w).grown g3 (fun k hk => .inl hk.symm)
  have hA' : AllAt w' base v' (hs ++ [ls]) := by
    refine ⟨vs ++ [u], by rw [List.length_append]; exact g2, by simp [h2], fun i l hl => ?_⟩
    by_cases hlt : i < hs.length
    · rw [List.getElem?_append_left hlt] at hl
      obtain ⟨z, k1, k2⟩ := h3 i l hl
      refine ⟨z, ?_, k2.grow g5 (hf l (List.mem_of_getElem? hl)) fr⟩
      rw [List.getElem?_append_left (by rw [h2]; exact hlt)]
      exact k1
    · rw [List.getElem?_append_right (by omega)] at hl
      have e0 : i - hs.length = 0 := by
        rcases Nat.eq_zero_or_pos (i - hs.length) with e | e
        · exact e
        · rw [List.getElem?_eq_none (by simp; omega)] at hl; cases hl
      rw [e0] at hl
      simp at hl
      subst hl
      refine ⟨u, ?_, hu.grow g5 hf1 fr⟩
      rw [List.getElem?_append_right (by rw [h2]; omega), h2, e0]
      rfl
  unfold Oper.wp
  simp [execOp, hop, resolve, invoke, builtin, hsv, hx, hrun, Result.andThen]
  exact hK' _ _ (hK v' w' hA' g3)
end

def ad_lt (w : World) (A : Option Addr) (n : Nat) : Prop := 0 < n → ∀ ad, A = some ad → ad.block < w.heap.size
theorem mostOf_snoc (l : List RowD) (x : RowD) : mostOf (l ++ [x]) = max (mostOf l) (many x.l.length) := by
  induction l with
  | nil => simp [mostOf]
  | cons y r ih =>
    show max (many y.l.length) (mostOf (r ++ [x])) = max (max (many y.l.length) (mostOf r)) (many x.l.length)
    rw [ih, Nat.max_assoc]
theorem mostOf_le {xs : List RowD} (h : ∀ x ∈ xs, x.l.length ≤ 3000) : mostOf xs ≤ 100 := by
  induction xs with
  | nil => exact Nat.zero_le _
  | cons x r ih =>
    have h1 := h x (by simp)
    have h2 := ih (fun y hy => h y (by simp [hy]))
    have h3 : many x.l.length ≤ 100 := by unfold many; omega
    show max (many x.l.length) (mostOf r) ≤ 100
    omega
theorem mixL_len (xs : List RowD) (picks : List Int) : (mixL xs picks).length = mostOf xs := by simp [mixL]
theorem mixL_full (xs : List RowD) (picks : List Int) : Full (mixL xs picks) := fun l hl => by
  have := mix64 xs picks l hl
  omega
theorem mixL_take {xs : List RowD} {picks : List Int} {i : Nat} (h : i < mostOf xs) : (mixL xs picks).take (i + 1) = (mixL xs picks).take i ++ [mixH xs picks i] := by
  have : (mixL xs picks)[i]? = some (mixH xs picks i) := by simp [mixL, h]
  rw [List.take_add_one, this]
  rfl
theorem own_ne_of {v : Value} {B : Nat} {Ah : Option Addr} (h : ∀ k, v.ownBlock = some k → B ≤ k) (h2 : ∀ ad, Ah = some ad → v.ownBlock ≠ some ad.block) : ∀ ad, Ah = some ad → 0 ≤ ad.block ∧ v.ownBlock ≠ some ad.block := fun ad e => ⟨Nat.zero_le _, h2 ad e⟩
theorem own_from {v v' : Value} {B n : Nat} (h : ∀ k, v.ownBlock = some k → B ≤ k) (ho : v'.ownBlock = v.ownBlock ∨ v'.ownBlock = some n) (hn : B ≤ n) : ∀ k, v'.ownBlock = some k → B ≤ k := fun k hk => by
  rcases ho with e | e
  · exact h k (by rw [← e, hk])
  · rw [e] at hk
    injection hk with hk
    omega
theorem AllAt.at_ {w : World} {base n c : Nat} {A : Option Addr} {hs : List (List (List UInt8))} (h : AllAt w base (.slice A n c) hs) {p : Nat} {ls : List (List UInt8)} (hp : hs[p]? = some ls) (hn : 0 < ls.length) :
    ∃ ga, A = some ⟨ga, 0, none⟩ ∧ ∃ gu cu, w.cell? ⟨ga, p, none⟩ = some (.slice (some ⟨gu, 0, none⟩) ls.length cu) ∧ ∀ (i : Nat) l, ls[i]? = some l → ∃ A c, w.cell? ⟨gu, i, none⟩ = some (.slice A l.length c) ∧ l.length ≤ c ∧ Rd w A l.length l ∧ (A = none → c = 0) ∧ ad_lt w A l.length := by
  obtain ⟨vs, h1, h2, h3⟩ := h
  have hlt := (List.getElem?_eq_some_iff.1 hp).1
  obtain ⟨u, k1, us, ⟨bu, u1⟩, u2, u3⟩ := h3 p ls hp
  have h0 := h1
  rcases h1.2 with ⟨_, e⟩ | ⟨g, cap, cur, e, _⟩
  · omega
  injection e with e _ _
  subst e
  have u0 := u1
  rcases u1.2 with ⟨_, e⟩ | ⟨gu, cu, curu, rfl, _⟩
  · omega
  refine ⟨g, rfl, gu, cu, ?_, fun i l hi => ?_⟩
  · have := h0.cells (g := g) rfl p _ k1
    rwa [Addr.add_lit, Nat.zero_add] at this
  · obtain ⟨A2, c2, q1, q2, q3, q5, _⟩ := u2.2 i l hi
    have := u0.cells (g := gu) rfl i _ q1
    rw [Addr.add_lit, Nat.zero_add] at this
    refine ⟨A2, c2, this, q2, q3, q5, fun hl ad e => ?_⟩
    obtain ⟨ad', e', hlt'⟩ := q3.lt hl
    rw [e] at e'
    injection e' with e'
    subst e'
    exact hlt'
/-- Picks that came in. -/
def PicksAt (w : World) (v : Value) (picks : List Int) : Prop := ∃ A c, v = .slice A picks.length c ∧ picks.length ≤ maxLen ∧ (0 < picks.length → ∃ b off, A = some ⟨b, off, none⟩ ∧ ∀ i z, picks[i]? = some z → w.cell? ⟨b, off + i, none⟩ = some (.int .i64 z) ∧ -9223372036854775808 ≤ z ∧ z ≤ 9223372036854775807)

set_option maxRecDepth 100000 in
set_option maxHeartbeats 8000000 in
theorem mixed_some {w : World} {b off : Nat} {xs : List RowD} {cap : Nat} (h : RowsAt w b off xs) (hl : xs.length ≤ 5) (hap : Apart5 xs) {vp : Value} {picks : List Int} (hp : PicksAt w vp picks) :
    Calls Try.prog 21 #[.slice (some ⟨b, off, none⟩) xs.length cap, vp] w fun e w' => ∃ v, e = .returned v ∧ SecV w' v (sectorsL (mixL xs picks)) ∧ Fr (fun _ => False) w w' := by
  have H := Lib.hid h
  have HAP := Lib.hid hap
  have HML := Lib.hid (mostOf_le hap.few)
  have HFU := Lib.hid (mixL_full xs picks)
  obtain ⟨Ap, cp, rfl, hp1, hp2⟩ := hp
  have HP := Lib.hid hp2
  obtain ⟨np, hnp⟩ : ∃ np, np = picks.length := ⟨_, rfl⟩
  rw [← hnp] at hp1 ⊢
  have hnp9 : np ≤ 9223372036854775807 := by simp only [maxLen] at hp1; omega
  have HNP := Lib.hid hnp
  clear h hap hp1 hp2 hnp
  go_enter Try.func21, Try.ntmps21
  go_wp2_with fail
  go_loopw [5, 6, 7, 8] (fun s mst i _ wr => ∃ (k : Nat) (v : Value) (q : Nat), v = s ∧ mst = .int .i64 q ∧ i = .int .i64 k ∧ k ≤ xs.length ∧ Hid (q = mostOf (xs.take k)) ∧ q ≤ 100 ∧ Hid (AllAt wr w.heap.size v ((xs.take k).map hofL)) ∧ Hid (Fr (fun _ => False) w wr)) (fun _ _ i _ _ => xs.length - (intOf i).toNat)
  case atStart => exact ⟨0, _, 0, rfl, rfl, rfl, Nat.zero_le _, Lib.hid rfl, by omega, Lib.hid (AllAt.nil _ _), Lib.hid (Fr.refl _ _)⟩
  case round =>
    obtain ⟨k, v, q, rfl, rfl, rfl, hk, HQ, hq, HV, HF⟩ := hrel
    by_cases hlt : k < xs.length
    · obtain ⟨hok, h0, h1, h2⟩ := (H.out.new HF.out) k xs[k] (List.getElem?_eq_getElem hlt)
      have HT := Lib.hid (List.take_succ_eq_append_getElem hlt)
      have HX := Lib.hid (HAP.out.may _ (List.getElem_mem hlt))
      have HX3 := Lib.hid (HAP.out.few _ (List.getElem_mem hlt))
      generalize xs[k] = x at *
      have hmn := may_nat HX.out
      have hrl := hok.rd.len
      have HRH := Lib.hid fun W (f : Fr (fun _ => False) wr W) => rhalves_any (cb := x.k) (hok.rd.keep f (fun _ _ q => q)) (by have := HX3.out; omega) x.c x.n.toNat (by omega) (by omega)
      rw [hmn.1] at HRH
      have hi0 : (0 : Int) ≤ (k : Int) := by omega
      have hi1 : (k : Int) < (xs.length : Int) := by omega
      have HMN := Lib.hid hmn
      have HLT := Lib.hid hlt
      clear hmn hok hlt hk hrl
      go_wp2_with fail
      go_region_held3 (fun w' => w'.cell? ⟨b, off + k * 3, none⟩ = some (.int .u64 x.c) ∧ w'.cell? ⟨b, off + k * 3 + 1, none⟩ = some (.int .i64 x.n) ∧ w'.cell? ⟨b, off + k * 3 + 2, none⟩ = some (.slice x.A x.m x.k))
        (first | go_keep | (exact ⟨cell_new h0 hf3, cell_new h1 hf3, cell_new h2 hf3⟩))
        ((go_at_call 22; refine (HRH.out _ ((Fr.refl _ _).drew)).mono ?_; rintro e w2 ⟨v2, rfl, hl2, hf2⟩; have hf3 := ((Fr.refl (fun _ => False) wr).drew).trans hf2 (fun _ _ q => q)))
      have hszd : wr.drew.heap.size = wr.heap.size := rfl
      have hlo : LstO w2 v.ownBlock v2 (hofL x) := LstO.of hl2 (fun j hj => by have := (HV.out.lt j hj).2; omega)
      obtain ⟨A2, c2, hv2, _, _⟩ := hl2.form
      rw [halvesL_len] at hv2
      subst hv2
      have H2 := Lib.hid (And.intro (hlo.new ((Fr.refl _ w2).alloc (.cells #[.slice A2 (many x.l.length) c2] 52))) (And.intro (HV.out.new (hf3.alloc (.cells #[.slice A2 (many x.l.length) c2] 52))) (HF.out.trans (hf3.alloc (.cells #[.slice A2 (many x.l.length) c2] 52)) (fun _ _ q => q))))
      have hmy : many x.l.length ≤ 100 := by have := HX3.out; unfold many; omega
      clear h0 h1 h2 hl2 hf2 hf3 hszd hlo HRH
      generalize hmz : many x.l.length = mz at *
      have HMZ := Lib.hid hmz
      clear hmz
      go_wp2_with (refine wpList_append_all rfl (.tmp 29) (.tmp 31) rfl (base := w.heap.size) (v := v) (u := .slice A2 mz c2) (hs := (xs.take k).map hofL) (ls := hofL x) H2.out.2.1 H2.out.1 (B := w2.heap.size) (Blk.new w2 _ _) 1 rfl rfl (fun l hl => by obtain ⟨y, hy, rfl⟩ := List.mem_map.1 hl; exact halvesL_full _ _ _) (halvesL_full _ _ _) (by rw [List.length_map, List.length_take]; omega) H2.out.2.2.size ?_; intro v3 w3 ha3 hg3; have H3 := Lib.hid (And.intro ha3 hg3); clear ha3 hg3)
      refine ⟨⟨k + 1, v3, max q mz, rfl, congrArg (Value.int .i64) (by split <;> omega), by go_num, HLT.out, Lib.hid ?_, by omega, Lib.hid ?_, Lib.hid (H2.out.2.2.grown H3.out.2 (fun j hj => .inr (HV.out.lt j hj).1))⟩, by have := HLT.out; simp [intOf]; omega⟩
      · rw [HT.out, mostOf_snoc, HMZ.out, HQ.out]
      · rw [HT.out, List.map_append]
        exact H3.out.1
    · obtain rfl : k = xs.length := by omega
      have hv0 := HV.out
      have hq0 := HQ.out
      rw [List.take_length] at hv0 hq0
      obtain ⟨Aa, ca, hva, _, _⟩ := hv0.form
      rw [List.length_map] at hva
      subst hva
      have HV0 := Lib.hid hv0
      have HQ0 := Lib.hid hq0
      clear hv0 hq0 hlt hk HV HQ
      generalize wr = w1 at *
      go_wp2_with fail
      go_loopw [9, 10, 11] (fun s x _ wr => ∃ (i : Nat) (v : Value), v = s ∧ x = .int .i64 i ∧ i ≤ q ∧ Hid (Lst wr 0 v ((mixL xs picks).take i)) ∧ Hid (∀ k, v.ownBlock = some k → w1.heap.size ≤ k) ∧ Hid (Fr (fun _ => False) w1 wr)) (fun _ x _ _ => q - (intOf x).toNat)
      case atStart => exact ⟨0, _, rfl, rfl, Nat.zero_le _, Lib.hid (Lst.nil _ _), Lib.hid (fun k hk => by cases hk), Lib.hid (Fr.refl _ _)⟩
      case round =>
        generalize HF = HF0 at *
        obtain ⟨i, v, rfl, rfl, hi, HV, HOB, HF1⟩ := hrel
        by_cases hlt : i < q
        · have HLT : Hid (i < mostOf xs) := Lib.hid (by rw [← HQ0.out]; exact hlt)
          have hmk : (Instr.makeSlice 25 (.int .i64 64) (.int .i64 64)).run Try.prog wr = .ok (.slice (some ⟨wr.heap.size, 0, none⟩) 64 64) (wr.alloc (.cells (cellsB (nought 64)).toArray 5)) := make_bytes wr 64 (by omega)
          have HW : Hid (Fr (fun _ => False) wr (wr.alloc (.cells (cellsB (nought 64)).toArray 5))) := Lib.hid ((Fr.refl _ wr).alloc _)
          have HSB : Hid (w1.heap.size ≤ ((wr.alloc (.cells (cellsB (nought 64)).toArray 5)).alloc (.cells #[.slice none 0 0] 25)).heap.size) := Lib.hid (by have := HF1.out.size; simp; omega)
          have HF := Lib.hid (HF0.out.trans HF1.out (fun _ _ q => q))
          have HNO : Hid (mixH xs picks i = nought 64 → ((64 : Nat) ≤ 64 ∧ Rd (wr.alloc (.cells (cellsB (nought 64)).toArray 5)) (some ⟨wr.heap.size, 0, none⟩) 64 (mixH xs picks i) ∧ ((some ⟨wr.heap.size, 0, none⟩ : Option Addr) = none → (64 : Nat) = 0)) ∧ ∀ ad, (some ⟨wr.heap.size, 0, none⟩ : Option Addr) = some ad → v.ownBlock ≠ some ad.block) := Lib.hid fun e => by
            rw [e]
            refine ⟨⟨Nat.le_refl _, bytes_rd (Blk.new wr 5 (cellsB (nought 64)).toArray) (nought_len _) (by omega), (fun q => by cases q)⟩, fun ad e2 q => ?_⟩
            injection e2 with e2
            subst e2
            have := (HV.out.lt _ q).2
            simp at this
          by_cases ha : i < np
          rotate_left
          · have ha1 : ¬ (i : Int) < (np : Int) := by omega
            have hm0 := HNO.out (by
              unfold mixH pickAt
              rw [List.getElem?_eq_none (by rw [← HNP.out]; omega)]
              rfl)
            have HHC := Lib.hid hm0.1
            have HHB := Lib.hid hm0.2
            clear hm0 ha hi
            have HBK : Hid (Blk ((wr.alloc (.cells (cellsB (nought 64)).toArray 5)).alloc (.cells #[.slice (some ⟨wr.heap.size, 0, none⟩) 64 64] 25)) (wr.heap.size + 1) 25 #[.slice (some ⟨wr.heap.size, 0, none⟩) 64 64]) := Lib.hid (by
              have q := Blk.new (wr.alloc (.cells (cellsB (nought 64)).toArray 5)) 25 #[.slice (some ⟨wr.heap.size, 0, none⟩) 64 64]
              have e : (wr.alloc (.cells (cellsB (nought 64)).toArray 5)).heap.size = wr.heap.size + 1 := by simp
              rwa [e] at q)
            have HPO := Lib.hid (own_ne_of HOB.out HHB.out)
            go_wp2_with (refine wpList_append_lst rfl (.tmp 87) (.tmp 89) rfl (base := 0) (v := v) (ls := (mixL xs picks).take i) (ms := [mixH xs picks i]) (us := [.slice (some ⟨wr.heap.size, 0, none⟩) 64 64]) (HV.out.new (HW.out.alloc _)) (B := wr.heap.size + 1) (m := 1) HBK.out (Els.one (mixH_len xs picks i) HHC.out.1 (HHC.out.2.1.keep (F := fun _ => False) ((Fr.refl _ _).alloc _) (fun _ _ q => q)) HHC.out.2.2 HPO.out) rfl 1 rfl rfl (full_take HFU.out i) (fun l hl => by rw [List.mem_singleton.1 hl, mixH_len]; omega) (by rw [List.length_take]; have := HML.out; omega) (Nat.zero_le _) ?_; intro v9 w9 hl9 hg9 hat9; have H9 := Lib.hid (And.intro hl9 (And.intro hg9 hat9)); clear hl9 hg9 hat9)
            refine ⟨⟨i + 1, v9, rfl, by go_num, by omega, Lib.hid (by rw [mixL_take HLT.out]; exact H9.out.1), Lib.hid (own_from HOB.out H9.out.2.2 (by have := HF1.out.size; simp; omega)), Lib.hid ((HF1.out.trans (HW.out.alloc _) (fun _ _ q => q)).grown H9.out.2.1 (fun k hk => .inr (HOB.out k hk)))⟩, by simp [intOf]; omega⟩
          · obtain ⟨pb, po, hAp, hpc⟩ := HP.out (by rw [← HNP.out]; omega)
            subst hAp
            obtain ⟨z, hz⟩ : ∃ z, picks[i]? = some z := ⟨_, List.getElem?_eq_getElem (by rw [← HNP.out]; exact ha)⟩
            obtain ⟨hc0, hz1, hz2⟩ := hpc i z hz
            have hcz : (wr.alloc (.cells (cellsB (nought 64)).toArray 5)).cell? ⟨pb, po + i, none⟩ = some (.int .i64 z) := cell_new hc0 (HF.out.trans HW.out (fun _ _ q => q))
            have hpk : pickAt picks i = z := by unfold pickAt; rw [hz]; rfl
            have hi0 : (0 : Int) ≤ (i : Int) := by omega
            have hi1 : (i : Int) < (np : Int) := by omega
            clear hpc hz hc0 ha hi
            by_cases hb1 : 0 < z ∧ z ≤ (xs.length : Int)
            rotate_left
            · have hm0 := HNO.out (by unfold mixH; rw [hpk, if_neg hb1])
              have HHC := Lib.hid hm0.1
              have HHB := Lib.hid hm0.2
              by_cases hb2 : 0 < z
              · have hb3 : ¬ z ≤ (xs.length : Int) := fun q => hb1 ⟨hb2, q⟩
                clear hm0 hb1 hpk
                have HBK : Hid (Blk ((wr.alloc (.cells (cellsB (nought 64)).toArray 5)).alloc (.cells #[.slice (some ⟨wr.heap.size, 0, none⟩) 64 64] 25)) (wr.heap.size + 1) 25 #[.slice (some ⟨wr.heap.size, 0, none⟩) 64 64]) := Lib.hid (by
                  have q := Blk.new (wr.alloc (.cells (cellsB (nought 64)).toArray 5)) 25 #[.slice (some ⟨wr.heap.size, 0, none⟩) 64 64]
                  have e : (wr.alloc (.cells (cellsB (nought 64)).toArray 5)).heap.size = wr.heap.size + 1 := by simp
                  rwa [e] at q)
                have HPO := Lib.hid (own_ne_of HOB.out HHB.out)
                go_wp2_with (refine wpList_append_lst rfl (.tmp 87) (.tmp 89) rfl (base := 0) (v := v) (ls := (mixL xs picks).take i) (ms := [mixH xs picks i]) (us := [.slice (some ⟨wr.heap.size, 0, none⟩) 64 64]) (HV.out.new (HW.out.alloc _)) (B := wr.heap.size + 1) (m := 1) HBK.out (Els.one (mixH_len xs picks i) HHC.out.1 (HHC.out.2.1.keep (F := fun _ => False) ((Fr.refl _ _).alloc _) (fun _ _ q => q)) HHC.out.2.2 HPO.out) rfl 1 rfl rfl (full_take HFU.out i) (fun l hl => by rw [List.mem_singleton.1 hl, mixH_len]; omega) (by rw [List.length_take]; have := HML.out; omega) (Nat.zero_le _) ?_; intro v9 w9 hl9 hg9 hat9; have H9 := Lib.hid (And.intro hl9 (And.intro hg9 hat9)); clear hl9 hg9 hat9)
                refine ⟨⟨i + 1, v9, rfl, by go_num, by omega, Lib.hid (by rw [mixL_take HLT.out]; exact H9.out.1), Lib.hid (own_from HOB.out H9.out.2.2 (by have := HF1.out.size; simp; omega)), Lib.hid ((HF1.out.trans (HW.out.alloc _) (fun _ _ q => q)).grown H9.out.2.1 (fun k hk => .inr (HOB.out k hk)))⟩, by simp [intOf]; omega⟩
              · clear hm0 hb1 hpk
                have HBK : Hid (Blk ((wr.alloc (.cells (cellsB (nought 64)).toArray 5)).alloc (.cells #[.slice (some ⟨wr.heap.size, 0, none⟩) 64 64] 25)) (wr.heap.size + 1) 25 #[.slice (some ⟨wr.heap.size, 0, none⟩) 64 64]) := Lib.hid (by
                  have q := Blk.new (wr.alloc (.cells (cellsB (nought 64)).toArray 5)) 25 #[.slice (some ⟨wr.heap.size, 0, none⟩) 64 64]
                  have e : (wr.alloc (.cells (cellsB (nought 64)).toArray 5)).heap.size = wr.heap.size + 1 := by simp
                  rwa [e] at q)
                have HPO := Lib.hid (own_ne_of HOB.out HHB.out)
                go_wp2_with (refine wpList_append_lst rfl (.tmp 87) (.tmp 89) rfl (base := 0) (v := v) (ls := (mixL xs picks).take i) (ms := [mixH xs picks i]) (us := [.slice (some ⟨wr.heap.size, 0, none⟩) 64 64]) (HV.out.new (HW.out.alloc _)) (B := wr.heap.size + 1) (m := 1) HBK.out (Els.one (mixH_len xs picks i) HHC.out.1 (HHC.out.2.1.keep (F := fun _ => False) ((Fr.refl _ _).alloc _) (fun _ _ q => q)) HHC.out.2.2 HPO.out) rfl 1 rfl rfl (full_take HFU.out i) (fun l hl => by rw [List.mem_singleton.1 hl, mixH_len]; omega) (by rw [List.length_take]; have := HML.out; omega) (Nat.zero_le _) ?_; intro v9 w9 hl9 hg9 hat9; have H9 := Lib.hid (And.intro hl9 (And.intro hg9 hat9)); clear hl9 hg9 hat9)
                refine ⟨⟨i + 1, v9, rfl, by go_num, by omega, Lib.hid (by rw [mixL_take HLT.out]; exact H9.out.1), Lib.hid (own_from HOB.out H9.out.2.2 (by have := HF1.out.size; simp; omega)), Lib.hid ((HF1.out.trans (HW.out.alloc _) (fun _ _ q => q)).grown H9.out.2.1 (fun k hk => .inr (HOB.out k hk)))⟩, by simp [intOf]; omega⟩
            · obtain ⟨p, hpz⟩ : ∃ p : Nat, z = (p : Int) + 1 := ⟨(z - 1).toNat, by omega⟩
              subst hpz
              have hpl : p < xs.length := by omega
              obtain ⟨x, hx⟩ : ∃ x, xs[p]? = some x := ⟨_, List.getElem?_eq_getElem hpl⟩
              have htn : ((p : Int) + 1).toNat - 1 = p := by omega
              have hal : ((xs.map hofL))[p]? = some (hofL x) := by rw [List.getElem?_map, hx]; rfl
              obtain ⟨ga, hAa, gu, cu, hcu, hce⟩ := HV0.out.at_ hal (by rw [hofL, halvesL_len]; exact many_pos _)
              subst hAa
              have hMl : (hofL x).length = many x.l.length := by rw [hofL, halvesL_len]
              rw [hMl] at hcu
              have hcu2 : (wr.alloc (.cells (cellsB (nought 64)).toArray 5)).cell? ⟨ga, p, none⟩ = some (.slice (some ⟨gu, 0, none⟩) (many x.l.length) cu) := cell_new hcu (HF1.out.trans HW.out (fun _ _ q => q))
              have hp0 : (0 : Int) ≤ (p : Int) := by omega
              have hp1 : (p : Int) < (xs.length : Int) := by omega
              have hp2 : (p : Int) + 1 ≤ (xs.length : Int) := by omega
              have hp3 : (0 : Int) < (p : Int) + 1 := by omega
              have hmx : mixH xs picks i = ((hofL x)[i]?).getD (nought 64) := by
                unfold mixH
                rw [hpk, if_pos hb1, htn, hx]
                rfl
              have hm1 : many x.l.length ≤ 100 := by have := HAP.out.few x (List.mem_of_getElem? hx); unfold many; omega
              have HCE := Lib.hid hce
              have HHX := Lib.hid fun j => @hofL_at x j
              clear hal hcu hce hb1 hpk hz1 hz2 htn hx
              by_cases hiM : i < many x.l.length
              rotate_left
              · have hm0 := HNO.out (by
                  rw [hmx, List.getElem?_eq_none (by rw [hMl]; omega)]
                  rfl)
                have HHC := Lib.hid hm0.1
                have HHB := Lib.hid hm0.2
                have hi5 : ¬ (i : Int) < (many x.l.length : Int) := by omega
                clear hm0 hmx hMl hiM
                generalize many x.l.length = mz at *
                have HBK : Hid (Blk ((wr.alloc (.cells (cellsB (nought 64)).toArray 5)).alloc (.cells #[.slice (some ⟨wr.heap.size, 0, none⟩) 64 64] 25)) (wr.heap.size + 1) 25 #[.slice (some ⟨wr.heap.size, 0, none⟩) 64 64]) := Lib.hid (by
                  have q := Blk.new (wr.alloc (.cells (cellsB (nought 64)).toArray 5)) 25 #[.slice (some ⟨wr.heap.size, 0, none⟩) 64 64]
                  have e : (wr.alloc (.cells (cellsB (nought 64)).toArray 5)).heap.size = wr.heap.size + 1 := by simp
                  rwa [e] at q)
                have HPO := Lib.hid (own_ne_of HOB.out HHB.out)
                go_wp2_with (refine wpList_append_lst rfl (.tmp 87) (.tmp 89) rfl (base := 0) (v := v) (ls := (mixL xs picks).take i) (ms := [mixH xs picks i]) (us := [.slice (some ⟨wr.heap.size, 0, none⟩) 64 64]) (HV.out.new (HW.out.alloc _)) (B := wr.heap.size + 1) (m := 1) HBK.out (Els.one (mixH_len xs picks i) HHC.out.1 (HHC.out.2.1.keep (F := fun _ => False) ((Fr.refl _ _).alloc _) (fun _ _ q => q)) HHC.out.2.2 HPO.out) rfl 1 rfl rfl (full_take HFU.out i) (fun l hl => by rw [List.mem_singleton.1 hl, mixH_len]; omega) (by rw [List.length_take]; have := HML.out; omega) (Nat.zero_le _) ?_; intro v9 w9 hl9 hg9 hat9; have H9 := Lib.hid (And.intro hl9 (And.intro hg9 hat9)); clear hl9 hg9 hat9)
                refine ⟨⟨i + 1, v9, rfl, by go_num, by omega, Lib.hid (by rw [mixL_take HLT.out]; exact H9.out.1), Lib.hid (own_from HOB.out H9.out.2.2 (by have := HF1.out.size; simp; omega)), Lib.hid ((HF1.out.trans (HW.out.alloc _) (fun _ _ q => q)).grown H9.out.2.1 (fun k hk => .inr (HOB.out k hk)))⟩, by simp [intOf]; omega⟩
              · obtain ⟨l, hl⟩ : ∃ l, (hofL x)[i]? = some l := ⟨_, List.getElem?_eq_getElem (by rw [hMl]; exact hiM)⟩
                rw [hl, Option.getD_some] at hmx
                obtain ⟨Ah, ch, he1, he2, he3, he4, he5⟩ := HCE.out i l hl
                have hl64 : l.length = 64 := by rw [← hmx]; exact mixH_len _ _ _
                rw [hl64] at he1 he2 he3 he5
                have he6 : (wr.alloc (.cells (cellsB (nought 64)).toArray 5)).cell? ⟨gu, i, none⟩ = some (.slice Ah 64 ch) := cell_new he1 (HF1.out.trans HW.out (fun _ _ q => q))
                have HHC : Hid (64 ≤ ch ∧ Rd (wr.alloc (.cells (cellsB (nought 64)).toArray 5)) Ah 64 (mixH xs picks i) ∧ (Ah = none → ch = 0)) := Lib.hid ⟨he2, by rw [hmx]; exact he3.keep (HF1.out.trans HW.out (fun _ _ q => q)) (fun _ _ q => q), he4⟩
                have HHB : Hid (∀ ad, Ah = some ad → v.ownBlock ≠ some ad.block) := Lib.hid fun ad e q => by
                  have q1 := HOB.out _ q
                  have q2 := he5 (by omega) ad e
                  omega
                have hi5 : (i : Int) < (many x.l.length : Int) := by omega
                clear hmx hMl hiM hl he1 he2 he3 he4 he5 hl64
                generalize many x.l.length = mz at *
                have HBK : Hid (Blk ((wr.alloc (.cells (cellsB (nought 64)).toArray 5)).alloc (.cells #[.slice Ah 64 ch] 25)) (wr.heap.size + 1) 25 #[.slice Ah 64 ch]) := Lib.hid (by
                  have q := Blk.new (wr.alloc (.cells (cellsB (nought 64)).toArray 5)) 25 #[.slice Ah 64 ch]
                  have e : (wr.alloc (.cells (cellsB (nought 64)).toArray 5)).heap.size = wr.heap.size + 1 := by simp
                  rwa [e] at q)
                have HPO := Lib.hid (own_ne_of HOB.out HHB.out)
                go_wp2_with (refine wpList_append_lst rfl (.tmp 87) (.tmp 89) rfl (base := 0) (v := v) (ls := (mixL xs picks).take i) (ms := [mixH xs picks i]) (us := [.slice Ah 64 ch]) (HV.out.new (HW.out.alloc _)) (B := wr.heap.size + 1) (m := 1) HBK.out (Els.one (mixH_len xs picks i) HHC.out.1 (HHC.out.2.1.keep (F := fun _ => False) ((Fr.refl _ _).alloc _) (fun _ _ q => q)) HHC.out.2.2 HPO.out) rfl 1 rfl rfl (full_take HFU.out i) (fun l hl => by rw [List.mem_singleton.1 hl, mixH_len]; omega) (by rw [List.length_take]; have := HML.out; omega) (Nat.zero_le _) ?_; intro v9 w9 hl9 hg9 hat9; have H9 := Lib.hid (And.intro hl9 (And.intro hg9 hat9)); clear hl9 hg9 hat9)
                refine ⟨⟨i + 1, v9, rfl, by go_num, by omega, Lib.hid (by rw [mixL_take HLT.out]; exact H9.out.1), Lib.hid (own_from HOB.out H9.out.2.2 (by have := HF1.out.size; simp; omega)), Lib.hid ((HF1.out.trans (HW.out.alloc _) (fun _ _ q => q)).grown H9.out.2.1 (fun k hk => .inr (HOB.out k hk)))⟩, by simp [intOf]; omega⟩
        · obtain rfl : i = q := by omega
          have hV := HV.out
          rw [List.take_of_length_le (by rw [mixL_len, ← HQ0.out]; exact Nat.le_refl _)] at hV
          have HS := Lib.hid (rsectors_any hV (mix64 xs picks) (by rw [mixL_len]; have := HML.out; omega))
          obtain ⟨Av, cv, hv', _, _⟩ := hV.form
          subst hv'
          have HF := Lib.hid (HF0.out.trans HF1.out (fun _ _ q => q))
          clear hV hlt hi HV
          go_wp2_with fail
          (with_reducible refine HS.out.mono ?_)
          rintro e w3 ⟨v3, rfl, ho3, hf3⟩
          have hfl := flat128 (ss := sectorsL (mixL xs picks)) (fun s hs => by
            obtain ⟨j, _, rfl⟩ := List.mem_map.1 hs
            exact secL_len (mix64 xs picks) j)
          have hse := sectorsL_len (mixL xs picks)
          rw [hse] at hfl
          have hsv := secV_own1 ho3 hfl.1
          rw [hfl.2] at hsv
          have HSV := Lib.hid (And.intro hsv (HF.out.trans hf3 (fun _ _ q => q)))
          clear ho3 hf3 hfl hse hsv HS
          go_wp2_with fail
          go_ret
          exact ⟨v3, rfl, HSV.out.1, HSV.out.2⟩
end Go.Proofs.Ytbnegiiombnnaaa
