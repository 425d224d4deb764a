/- Wc: laid together out of Rpa. -/
import Derived.Test.YtjdbgojnpnlblaaGreatWb
namespace Go.Proofs.YtjdbgojnpnlblaaGreat
open Go.RowKit

set_option maxRecDepth 100000 in
theorem numOf_snoc (l : List UInt8) (c : UInt8) : numOf (l ++ [c]) = numOf l * 256 + c.toNat := by
  rw [numOf_app]
  simp [numOf]
set_option maxRecDepth 100000 in
theorem rget_any {w : World} {A : Option Addr} {k c : Nat} {l : List UInt8} (hr : Rd w A k l) (hk : k ≤ 8) :
    Calls Tryz.prog 83 #[.slice A k c] w fun e w' => e = .returned (.int .u64 (numOf l : Nat)) ∧ w = w' := by
  have hl := hr.len
  have HR := Lib.hid hr
  clear hr
  go_enter Tryz.func83, Tryz.ntmps83
  go_wp2_with fail
  go_loop [3, 4] (fun x i => ∃ j : Nat, i = .int .i64 j ∧ j ≤ k ∧ x = .int .u64 (numOf (l.take j) : Nat)) (fun _ i => k - (intOf i).toNat)
  case atStart => exact ⟨0, rfl, Nat.zero_le _, rfl⟩
  case round =>
    obtain ⟨j, rfl, hj, rfl⟩ := hrel
    by_cases hlt : j < k
    · obtain ⟨ad, q, rfl, hq, hcell⟩ := HR.out.at_ hlt
      have hts : l.take (j + 1) = l.take j ++ [q] := by rw [List.take_add_one, hq]; rfl
      have hnx : numOf (l.take (j + 1)) = numOf (l.take j) * 256 + q.toNat := by rw [hts, numOf_snoc]
      have hle : numOf (l.take j) < 256 ^ 7 := by
        have h1 := numOf_lt (l.take j)
        have h2 : (l.take j).length ≤ 7 := by rw [List.length_take]; omega
        exact Nat.lt_of_lt_of_le h1 (Nat.pow_le_pow_right (by omega) h2)
      have hq8 := UInt8.toNat_lt q
      have HN := Lib.hid hnx
      clear hnx hts hq hj hl
      have hv : numOf (l.take j) ≤ 72057594037927935 := by omega
      clear hle
      generalize numOf (l.take j) = v at *
      have hi0 : (0 : Int) ≤ (j : Int) := by omega
      have hi1 : (j : Int) < (k : Int) := by omega
      generalize q.toNat = z at *
      go_wp2_with fail
      refine ⟨⟨j + 1, by go_num, by omega, ?_⟩, by simp [intOf]; omega⟩
      rw [HN.out]
      exact congrArg (Value.int .u64) (by omega)
    · obtain rfl : j = k := by omega
      rw [List.take_of_length_le (by omega)]
      clear hlt hj
      go_wp2_with fail
      go_ret
      exact ⟨rfl, rfl⟩

/-- The tag of a half. -/
def tagH (h : List UInt8) : Nat × Nat := if mayT (hdOf h).c ((hdOf h).n : Int) then ((hdOf h).c, (hdOf h).n) else (0, 0)
set_option maxRecDepth 100000 in
theorem size25 (w : World) : (sizeOf (Tryz.prog.elem 68)).run Tryz.prog w = .ok 1 w := by
  obtain ⟨i0, hi, hz0, hz1, hz2⟩ := info_parts infoU8
  have e : Tryz.prog.elem 68 = 5 := by kernel_rfl
  rw [e]
  simp [sizeOf, typeInfo, hi, hz1]
set_option maxRecDepth 100000 in
set_option maxHeartbeats 2000000 in
theorem rtag_any {w : World} {A : Option Addr} {c : Nat} {h : List UInt8} (hr : Rd w A 64 h) (hc : 64 ≤ c) : Calls Tryz.prog 84 #[.slice A 64 c] w fun e w' => e = .returned (tagV (tagH h)) ∧ Fr (fun _ => False) w w' := by
  obtain ⟨x, n, hx, hn, hT, hn4⟩ : ∃ x n, x = numOf (h.take 8) ∧ n = numOf ((h.drop 8).take 4) ∧ tagH h = (if mayT x (n : Int) then (x, n) else (0, 0)) ∧ n < 4294967296 := by
    refine ⟨_, _, rfl, rfl, rfl, ?_⟩
    have := numOf_lt ((h.drop 8).take 4)
    exact Nat.lt_of_lt_of_le this (Nat.pow_le_pow_right (by omega) (by rw [List.length_take]; omega : ((h.drop 8).take 4).length ≤ 4))
  obtain ⟨t, ht⟩ : ∃ t, t = tagH h := ⟨_, rfl⟩
  rw [← ht]
  have HT := Lib.hid (ht.trans hT)
  clear ht
  obtain ⟨hsl1, hr1⟩ := slice_to (P := Tryz.prog) (t := 68) (by kernel_rfl) size25 hr hc 8 (by omega)
  obtain ⟨ad, hA, hsl2, hr2⟩ := slice_part (c := c) hr hc 8 12 (by omega) (by omega)
  have HT0 : Hid (Blk (w.alloc (.cells #[.int .u64 0, .int .i64 0] 91)) w.heap.size 91 #[.int .u64 0, .int .i64 0]) := Lib.hid (Blk.new _ _ _)
  have HG1 : Hid (∀ W, Fr (fun _ => False) w W → Calls Tryz.prog 83 #[.slice A 8 c] W fun e w' => e = .returned (.int .u64 (x : Nat)) ∧ W = w') := Lib.hid fun W f => by
    rw [hx]; exact rget_any (hr1.keep f (fun _ _ q => q)) (by omega)
  have HG2 : Hid (∀ W, Fr (fun _ => False) w W → Calls Tryz.prog 83 #[.slice (some (ad.add 8)) 4 (c - 8)] W fun e w' => e = .returned (.int .u64 (n : Nat)) ∧ W = w') := Lib.hid fun W f => by
    rw [hn]; exact rget_any (hr2.keep f (fun _ _ q => q)) (by omega)
  have hwn : IntKind.i64.wrap (n : Int) = (n : Int) := by simp [IntKind.wrap, IntKind.signed, IntKind.bits]; omega
  have HF0 : Hid (∀ W, Fr (fun _ => False) (w.alloc (.cells #[.int .u64 0, .int .i64 0] 91)) W → Fr (fun _ => False) w W) := Lib.hid fun W f => ((Fr.refl _ w).alloc _).trans f (fun _ _ q => q)
  clear hr hr1 hr2 hx hn hT
  subst hA
  have hsl1' : ∀ W, (Instr.slice 68 (.slice (some ad) 64 c) none (some (.int .i64 8)) none).run Tryz.prog W = .ok (.slice (some ad) 8 c) W := hsl1
  have hsl2' : ∀ W, (Instr.slice 68 (.slice (some ad) 64 c) (some (.int .i64 8)) (some (.int .i64 12)) none).run Tryz.prog W = .ok (.slice (some (ad.add 8)) 4 (c - 8)) W := hsl2
  clear hsl1 hsl2
  have hadd : ad.add 8 = ⟨ad.block, ad.off + 8, none⟩ := by simp [Addr.add]
  rw [hadd] at HG2 hsl2'
  clear hadd
  go_enter Tryz.func84, Tryz.ntmps84
  go_wp2_with fail
  go_region_held3 (fun w' => Fr (fun _ => False) (w.alloc (.cells #[.int .u64 0, .int .i64 0] 91)) w')
    (first
      | (exact (Fr.refl _ _).drew)
      | assumption
      | (exact Fr.alloc (by assumption) _)
      | (exact ((Fr.refl _ _).alloc _).drew))
    ((first
      | (go_at_call_of 83 (Value.slice (some ad) 8 c); refine (HG1.out _ (HF0.out _ (by assumption))).mono ?_; rintro e w' ⟨rfl, rfl⟩)
      | (go_at_call 83; refine (HG2.out _ (HF0.out _ (by assumption))).mono ?_; rintro e w' ⟨rfl, rfl⟩)))
  all_goals
    have hb1 : Blk ((w.alloc (.cells #[.int .u64 0, .int .i64 0] 91)).alloc (.cells #[.int .u64 (x : Nat), .int .i64 (n : Nat)] 91)).drew (w.heap.size + 1) 91 #[.int .u64 (x : Nat), .int .i64 (n : Nat)] := by
      have := Blk.new (w.alloc (.cells #[.int .u64 0, .int .i64 0] 91)) 91 #[.int .u64 (x : Nat), .int .i64 (n : Nat)]
      have e : (w.alloc (.cells #[.int .u64 0, .int .i64 0] 91)).heap.size = w.heap.size + 1 := by simp
      rw [e] at this
      exact this.keep (F := fun _ => False) ((Fr.refl _ _).drew) (fun q => q)
    have hb0 := HT0.out.keep (F := fun _ => False) ((Fr.refl _ _).alloc (.cells #[.int .u64 (x : Nat), .int .i64 (n : Nat)] 91)).drew (fun q => q)
    have hfw := HF0.out _ ((Fr.refl _ _).alloc (.cells #[.int .u64 (x : Nat), .int .i64 (n : Nat)] 91)).drew
    generalize ((w.alloc (.cells #[.int .u64 0, .int .i64 0] 91)).alloc (.cells #[.int .u64 (x : Nat), .int .i64 (n : Nat)] 91)).drew = W at *
    have c0 := hb1.cell 0
    have c1 := hb1.cell 1
    simp at c0 c1
    have H1 := Lib.hid (And.intro hb0 (And.intro hb1 hfw))
    clear hb0 hb1 hfw hwn hsl1' hsl2'
    go_wp2_with fail
    refine (rmay_any _ x (n : Int)).mono ?_
    rintro e w3 ⟨rfl, hf3⟩
    have j1 := H1.out.1.keep hf3 (fun q => q)
    have j2 := H1.out.2.1.keep hf3 (fun q => q)
    have d0 := j2.cell 0
    have d1 := j2.cell 1
    have g0 := j1.cell 0
    have g1 := j1.cell 1
    have k0 := j1.frozen 0
    have k1 := j1.frozen 1
    simp at d0 d1 g0 g1
    have H3 := Lib.hid (And.intro j1 (H1.out.2.2.trans hf3 (fun _ _ q => q)))
    clear hf3 j1 j2 c0 c1 H1
    cases hm : mayT x (n : Int)
    · have ht : t = (0, 0) := by rw [HT.out]; simp [hm]
      subst ht
      clear hm
      go_wp2_with fail
      refine bodyPost_ret (results_cell_row rfl _ _ w.heap.size 91 #[.int .u64 ((0 : Nat) : Int), .int .i64 ((0 : Nat) : Int)] (0, 0) _ rfl ?_ Tryz.underlying91 rfl infoTag) rfl ?_
      · exact (H3.out.1.set_ 0 _).set_ 1 _
      · exact ⟨rfl, (H3.out.2.setCell (p := ⟨w.heap.size, 0, none⟩) (.inr (Nat.le_refl _)) _).setCell (p := ⟨w.heap.size, 1, none⟩) (.inr (Nat.le_refl _)) _⟩
    · have ht : t = (x, n) := by rw [HT.out]; simp [hm]
      subst ht
      clear hm
      go_wp2_with fail
      refine bodyPost_ret (results_cell_row rfl _ _ w.heap.size 91 #[.int .u64 (x : Int), .int .i64 (n : Int)] (0, 0) _ rfl ?_ Tryz.underlying91 rfl infoTag) rfl ?_
      · exact (H3.out.1.set_ 0 _).set_ 1 _
      · exact ⟨rfl, (H3.out.2.setCell (p := ⟨w.heap.size, 0, none⟩) (.inr (Nat.le_refl _)) _).setCell (p := ⟨w.heap.size, 1, none⟩) (.inr (Nat.le_refl _)) _⟩

/-- Sectors' halves. -/
def partsL (ss : List (List UInt8)) : List (List UInt8) := (List.range (2 * ss.length)).map (hv ss)
set_option maxRecDepth 100000 in
theorem partsL_len (ss : List (List UInt8)) : (partsL ss).length = 2 * ss.length := by simp [partsL]
set_option maxRecDepth 100000 in
theorem partsL_at {ss : List (List UInt8)} {i : Nat} (h : i < 2 * ss.length) : (partsL ss)[i]? = some (hv ss i) := by simp [partsL, h]
set_option maxRecDepth 100000 in
theorem partsL_take {ss : List (List UInt8)} {k : Nat} (h : k < ss.length) : (partsL ss).take (2 * (k + 1)) = (partsL ss).take (2 * k) ++ [hv ss (2 * k), hv ss (2 * k + 1)] := by
  have e : 2 * (k + 1) = 2 * k + 1 + 1 := by omega
  rw [e, List.take_add_one, partsL_at (by omega), List.take_add_one, partsL_at (by omega)]
  simp
set_option maxRecDepth 100000 in
theorem partsL_full {ss : List (List UInt8)} (hs : ∀ s ∈ ss, s.length = 128) : Full (partsL ss) := fun l hl => by
  obtain ⟨i, _, rfl⟩ := List.mem_map.1 hl
  rw [hv_len hs]
  omega
set_option maxRecDepth 100000 in
theorem parts64 {ss : List (List UInt8)} (hs : ∀ s ∈ ss, s.length = 128) : All64 (partsL ss) := fun l hl => by
  obtain ⟨i, _, rfl⟩ := List.mem_map.1 hl
  exact hv_len hs i
set_option maxRecDepth 100000 in
theorem hv_at {ss : List (List UInt8)} {k : Nat} {s : List UInt8} (h : ss[k]? = some s) (hl : s.length = 128) : hv ss (2 * k) = s.take 64 ∧ hv ss (2 * k + 1) = s.drop 64 := by
  unfold hv
  have e1 : (2 * k) / 2 = k := by omega
  have e2 : (2 * k) % 2 = 0 := by omega
  have e3 : (2 * k + 1) / 2 = k := by omega
  have e4 : (2 * k + 1) % 2 = 1 := by omega
  rw [e1, e2, e3, e4, h]
  refine ⟨by simp, ?_⟩
  simp only [Option.getD_some, Nat.mul_one]
  exact List.take_of_length_le (by rw [List.length_drop]; omega)
set_option maxRecDepth 100000 in
/-- A sector's half, read where the sector lies. -/
theorem SecsAt.half {w : World} {b off : Nat} {ss : List (List UInt8)} (h : SecsAt w b off ss) {k : Nat} {s : List UInt8} (hk : ss[k]? = some s) : Rd w (some ⟨b, off + k * 128, none⟩) 64 (s.take 64) ∧ Rd w (some ⟨b, off + k * 128 + 64, none⟩) 64 (s.drop 64) := by
  obtain ⟨hl, hr⟩ := h k s hk
  refine ⟨⟨by rw [List.length_take]; omega, fun _ => ⟨_, rfl, fun j c hj => ?_⟩⟩, ⟨by rw [List.length_drop]; omega, fun _ => ⟨_, rfl, fun j c hj => ?_⟩⟩⟩
  · rw [Addr.add_mid]
    refine hr j _ ?_
    rw [List.getElem?_take] at hj
    split at hj
    · simp [cellsB, hj]
    · cases hj
  · rw [Addr.add_mid, Nat.add_assoc]
    refine hr (64 + j) _ ?_
    rw [List.getElem?_drop] at hj
    simp [cellsB, hj]

section
variable {ops : Array Oper} {o : Oper} {a : Act} {Q : Exit → Act → World → Prop}
set_option maxRecDepth 100000 in
theorem step_append_lst {w : World} {K : Act → World → Prop} {E : Prop} (hg : o.guard = none) (s x : Operand) (hop : o.op = Op.call { callee := Callee.builtin Builtin.append, args := #[s, x], argTypes := #[138, 138] })
    {base : Nat} {v : Value} {ls ms : List (List UInt8)} {us : List Value} (hL : Lst w base v ls) {B m : Nat} (hB : Blk w B 68 us.toArray) (hE : Els w base v.ownBlock us ms) (hm : ms.length = m) (c : Nat) (hs : a.eval s = v) (hx : a.eval x = .slice (some ⟨B, 0, none⟩) m c)
    (hz1 : Full ls) (hz2 : Full ms) (hlen : ls.length + m ≤ 1000000) (hbase : base ≤ w.heap.size)
    (hK : ∀ v' w', Lst w' base v' (ls ++ ms) → w.grownBy w' v.ownBlock → (v'.ownBlock = v.ownBlock ∨ v'.ownBlock = some w.heap.size) → K (a.put o.dst v') w') : if Region.wanted o (yielded ops a.tmps) = true then Oper.wp Tryz.prog o a w K Q else E := by
  have hw : Region.wanted o (yielded ops a.tmps) = true := by simp [Region.wanted, hg]
  rw [if_pos hw]
  obtain ⟨v', w', hrun, h2, h3, h4⟩ := run_append_lst o.type hL hB hE hm c hz1 hz2 hlen hbase
  unfold Oper.wp
  simp [execOp, hop, resolve, invoke, builtin, hs, hx, hrun, Result.andThen]
  exact hK v' w' h2 h3 h4
end
set_option maxRecDepth 100000 in
theorem Els.two {w : World} {base : Nat} {own : Option Nat} {A A' : Option Addr} {c c' k k' : Nat} {l l' : List UInt8} (h : Els w base own [.slice A k c] [l]) (h' : Els w base own [.slice A' k' c'] [l']) : Els w base own [.slice A k c, .slice A' k' c'] [l, l'] := h.app h'
set_option maxRecDepth 100000 in
theorem full_two {l l' : List UInt8} (h : l.length = 64) (h' : l'.length = 64) : Full [l, l'] := fun x hx => by
  simp at hx
  rcases hx with rfl | rfl <;> omega
set_option maxRecDepth 100000 in
theorem own_blk_ge {w : World} {base e size n m c : Nat} {A : Option Addr} {xs : List Value} (h : w.ownsRow base e size (.slice A n c) m xs) : ∀ ad, A = some ad → base ≤ ad.block ∧ ad.block < w.heap.size := fun ad e => h.lt ad.block (by rw [e]; rfl)

set_option maxRecDepth 100000 in
set_option maxHeartbeats 4000000 in
theorem rparts_any {w : World} {v : Value} {ss : List (List UInt8)} (h : SecV w v ss) (hn : ss.length ≤ 1000) :
    Calls Tryz.prog 80 #[v] w fun e w' => ∃ v', e = .returned v' ∧ Lst w' w.heap.size v' (partsL ss) ∧ Fr (fun _ => False) w w' := by
  obtain ⟨A, ca, rfl, h1, h2, h3⟩ := h
  rcases Nat.eq_zero_or_pos ss.length with h0 | h0
  · obtain rfl := List.eq_nil_of_length_eq_zero h0
    have e : ([] : List (List UInt8)).length = 0 := rfl
    rw [e]
    clear e h1 h2 h3 hn h0
    go_enter Tryz.func80, Tryz.ntmps80
    go_wp2_with fail
    go_loopw [3, 4] (fun o x wr => o = .slice none 0 0 ∧ x = .int .i64 0 ∧ wr = w) (fun _ x _ => 0)
    case atStart => exact ⟨rfl, rfl, rfl⟩
    case round =>
      obtain ⟨rfl, rfl, rfl⟩ := hrel
      go_wp2_with fail
      go_ret
      exact ⟨_, rfl, Lst.nil _ _, Fr.refl _ _⟩
  · obtain ⟨b, off, rfl, hs⟩ := h3 h0
    have h128 : ∀ s ∈ ss, s.length = 128 := fun s hm => by
      obtain ⟨i, hi⟩ := List.getElem?_of_mem hm
      exact (hs i s hi).1
    have HS := Lib.hid hs
    have HFU := Lib.hid (partsL_full h128)
    obtain ⟨n, hln⟩ : ∃ n, n = ss.length := ⟨_, rfl⟩
    rw [← hln] at hn h0 h1 ⊢
    have HLN := Lib.hid hln
    clear hln h1 h2 h3 hs h128
    go_enter Tryz.func80, Tryz.ntmps80
    go_wp2_with fail
    go_loopw [3, 4] (fun o x wr => ∃ (k : Nat) (v : Value), v = o ∧ x = .int .i64 k ∧ k ≤ n ∧ Hid (Lst wr w.heap.size v ((partsL ss).take (2 * k))) ∧ Hid (Fr (fun _ => False) w wr)) (fun _ x _ => n - (intOf x).toNat)
    case atStart => exact ⟨0, _, rfl, rfl, Nat.zero_le _, Lib.hid (Lst.nil _ _), Lib.hid (Fr.refl _ _)⟩
    case round =>
      obtain ⟨k, v, rfl, rfl, hk, HV, HF⟩ := hrel
      by_cases hlt : k < n
      · obtain ⟨s, hs⟩ : ∃ s, ss[k]? = some s := ⟨_, List.getElem?_eq_getElem (by have := HLN.out; omega)⟩
        have hsl := ((HS.out.keep HF.out (fun q => q)) k s hs).1
        have hhv := hv_at hs hsl
        have hrr := (HS.out.keep HF.out (fun q => q)).half hs
        have HRR := Lib.hid (And.intro hrr (And.intro hhv hsl))
        clear hs hsl hhv hrr hk
        have hi0 : (0 : Int) ≤ (k : Int) := by omega
        have hi1 : (k : Int) < (n : Int) := by omega
        go_wp2_with fail
        have HL64 : Hid ((s.take 64).length = 64 ∧ (s.drop 64).length = 64) := Lib.hid (by have := HRR.out.2.2; rw [List.length_take, List.length_drop]; omega)
        go_region_held3 (fun w' => Fr (fun _ => False) w w')
          (first | (exact HF.out.drew) | (exact HF.out.trans hf1 (fun _ _ q => q)) | (exact HF.out.trans hf2 (fun _ _ q => q)) | (exact HF.out.trans (hf2.alloc _) (fun _ _ q => q)) | (exact hf3))
          ((first
            | (refine step_append_bytes rfl (.const (.slice none 0 0)) (.tmp 15) rfl wr.heap.size (.slice none 0 0) [] (s.take 64) (by rfl) (World.ownsRow_nil _ _ _ _) (some ⟨b, off + k * 128, none⟩) 64 128 (by rfl) (HRR.out.1.1.keep ((Fr.refl (fun _ => False) wr).drew) (fun _ _ q => q)) (by simp) (Nat.le_refl _) ?_; intro v1 w1 ho1 hg1 hat1; rw [List.nil_append] at ho1; obtain ⟨A1, c1, hv1, hc1, _⟩ := own_slice ho1; rw [HL64.out.1] at hv1 hc1; subst hv1; have hf1 : Fr (fun _ => False) wr w1 := ((Fr.refl (fun _ => False) wr).drew).grown hg1 (fun j hj => by cases hj); have H1 := Lib.hid (And.intro ho1 hc1); clear ho1 hc1 hg1 hat1)
            | (refine step_append_bytes rfl (.const (.slice none 0 0)) (.tmp 20) rfl wr.heap.size (.slice none 0 0) [] (s.drop 64) (by rfl) (World.ownsRow_nil _ _ _ _) (some ⟨b, off + k * 128 + 64, none⟩) 64 64 (by rfl) (HRR.out.1.2.keep hf1 (fun _ _ q => q)) (by simp) hf1.size ?_; intro v2 w2 ho2 hg2 hat2; rw [List.nil_append] at ho2; obtain ⟨A2, c2, hv2, hc2, _⟩ := own_slice ho2; rw [HL64.out.2] at hv2 hc2; subst hv2; have hf2 : Fr (fun _ => False) wr w2 := hf1.grown hg2 (fun j hj => by cases hj); have H2 := Lib.hid (And.intro ho2 (And.intro hc2 (own_keep H1.out.1 ((Fr.refl (fun _ => False) w1).grown hg2 (fun j hj => by cases hj)) (fun _ _ q => q)))); clear ho2 hc2 hg2 hat2 hf1)
            | (refine step_append_lst rfl (.tmp 11) (.tmp 22) rfl (base := w.heap.size) (v := v) (ls := (partsL ss).take (2 * k)) (ms := [s.take 64, s.drop 64]) (us := [.slice A1 64 c1, .slice A2 64 c2]) (HV.out.new (hf2.alloc _)) (B := w2.heap.size) (m := 2) (Blk.new w2 _ _)
                (Els.two (Els.one HL64.out.1 H1.out.2 ((bytes_rd2 H2.out.2.2 HL64.out.1).keep (F := fun _ => False) ((Fr.refl _ w2).alloc _) (fun _ _ q => q)) (own_none H2.out.2.2) (fun ad e => ⟨Nat.le_trans HF.out.size (own_blk_ge H2.out.2.2 ad e).1, fun q => by have := (own_blk_ge H2.out.2.2 ad e).1; have := (HV.out.lt ad.block q).2; omega⟩))
                  (Els.one HL64.out.2 H2.out.2.1 ((bytes_rd2 H2.out.1 HL64.out.2).keep (F := fun _ => False) ((Fr.refl _ w2).alloc _) (fun _ _ q => q)) (own_none H2.out.1) (fun ad e => ⟨Nat.le_trans HF.out.size (own_blk_ge H2.out.1 ad e).1, fun q => by have := (own_blk_ge H2.out.1 ad e).1; have := (HV.out.lt ad.block q).2; omega⟩)))
                rfl 2 (by rfl) (by rfl) (full_take HFU.out _) (full_two HL64.out.1 HL64.out.2) (by rw [List.length_take]; omega) (by have := HF.out.size; have := hf2.size; simp; omega) ?_; intro v3 w3 hl3 hg3 hat3; have hf3 : Fr (fun _ => False) w w3 := (HF.out.trans (hf2.alloc _) (fun _ _ q => q)).grown hg3 (fun j hj => .inr (HV.out.lt j hj).1); clear hat3)))
        have H3 := Lib.hid (And.intro hl3 hf3)
        clear hl3 hf3 hf2 hg3 H1 H2
        go_wp2_with fail
        refine ⟨⟨k + 1, v3, rfl, by go_num, by omega, Lib.hid ?_, Lib.hid H3.out.2⟩, by simp [intOf]; omega⟩
        rw [partsL_take (by have := HLN.out; omega), HRR.out.2.1.1, HRR.out.2.1.2]
        exact H3.out.1
      · obtain rfl : k = n := by omega
        have hV := HV.out
        rw [List.take_of_length_le (by rw [partsL_len, ← HLN.out]; exact Nat.le_refl _)] at hV
        obtain ⟨Av, cv, hv', _, _⟩ := hV.form
        subst hv'
        have HV2 := Lib.hid hV
        clear hV HV hlt hk
        go_wp2_with fail
        go_ret
        exact ⟨_, rfl, HV2.out, HF.out⟩
end Go.Proofs.YtjdbgojnpnlblaaGreat

