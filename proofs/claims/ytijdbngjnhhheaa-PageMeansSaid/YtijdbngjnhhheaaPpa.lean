/- packed. -/
import Derived.Test.YtijdbngjnhhheaaPwr
import Derived.Test.YtijdbngjnhhheaaPtr
namespace Go.Proofs.Ytijdbngjnhhheaa
open Go.RowKit

set_option maxRecDepth 100000 in
theorem be_four (x : Nat) : be x 4 = [UInt8.ofNat (x / 16777216 % 256), UInt8.ofNat (x / 65536 % 256), UInt8.ofNat (x / 256 % 256), UInt8.ofNat (x % 256)] := by simp [be, List.range, List.range.loop]
set_option maxRecDepth 100000 in
theorem head_made (k m e n : Nat) : patch (patch (patch (patch (nought 12) 0 [UInt8.ofNat k]) 2 (be m 2)) 4 (be e 2)) 8 (be n 4) = hd k m e n := by
  simp only [be_two, be_four, hd, nought, patch]
  rfl
set_option maxRecDepth 100000 in
theorem part_made (k m e n : Nat) (s : List Rec) : patch (patch (patch (patch (part (nought 12) s) 0 [UInt8.ofNat k]) 2 (be m 2)) 4 (be e 2)) 8 (be n 4) = part (hd k m e n) s := by
  rw [part_head (by simp [nought_len]), part_head (by rw [patch_len] <;> simp [be_len, nought_len])]
  have h1 : (patch (nought 12) 0 [UInt8.ofNat k]).length = 12 := by rw [patch_len] <;> simp [nought_len]
  have h2 : (patch (patch (nought 12) 0 [UInt8.ofNat k]) 2 (be m 2)).length = 12 := by rw [patch_len] <;> simp [be_len, h1]
  rw [part_head (by simp [be_len, h2])]
  have h3 : (patch (patch (patch (nought 12) 0 [UInt8.ofNat k]) 2 (be m 2)) 4 (be e 2)).length = 12 := by rw [patch_len] <;> simp [be_len, h2]
  rw [part_head (by simp [be_len, h3]), head_made]
/-- What a slot has, in memory. -/
def RecV (w : World) : Rec → Value → Value → Prop
  | none, u0, u1 => u0 = .bool false ∧ u1 = .slice none 0 0
  | some b, u0, u1 => u0 = .bool true ∧ ∃ A c, u1 = .slice A b.length c ∧ Rd w A b.length b
def RecsAt (w : World) (A : Option Addr) (s : List Rec) : Prop := ∀ i o, s[i]? = some o → ∃ CB u0 u1, A = some ⟨CB, 0, none⟩ ∧ w.cell? ⟨CB, i * 2, none⟩ = some u0 ∧ w.cell? ⟨CB, i * 2 + 1, none⟩ = some u1 ∧ RecV w o u0 u1
set_option maxRecDepth 100000 in
theorem RecV.new {w w' : World} {o : Rec} {u0 u1 : Value} (h : RecV w o u0 u1) (f : Fr (fun _ => False) w w') : RecV w' o u0 u1 := by
  cases o with
  | none => exact h
  | some b =>
    obtain ⟨h1, A, c, h2, h3⟩ := h
    exact ⟨h1, A, c, h2, h3.keep f (fun _ _ q => q)⟩
set_option maxRecDepth 100000 in
theorem RecsAt.new {w w' : World} {A : Option Addr} {s : List Rec} (h : RecsAt w A s) (f : Fr (fun _ => False) w w') : RecsAt w' A s := fun i o hi => by
  obtain ⟨CB, u0, u1, h1, h2, h3, h4⟩ := h i o hi
  exact ⟨CB, u0, u1, h1, (f.cell (World.block_lt_of_cell? w _ h2) (fun q => q)).trans h2, (f.cell (World.block_lt_of_cell? w _ h3) (fun q => q)).trans h3, h4.new f⟩
set_option maxRecDepth 100000 in
/-- Bytes copied into a page. -/
theorem copy_into {w : World} {PB o n c : Nat} {t : TypeId} {l b : List UInt8} {A : Option Addr} (h : Blk w PB t (cellsB l).toArray) (ho : o + n ≤ l.length) (hr : Rd w A n b) :
    ∃ w', (∀ ty, (Builtin.copy_ #[34, 34] ty #[partV PB o (o + n), .slice A n c]).run Try.prog w = .ok (goInt n) w') ∧ Blk w' PB t (cellsB (patch l o b)).toArray ∧ Fr (fun k => k = PB) w w' := by
  have hrn := hr.len
  rcases Nat.eq_zero_or_pos n with h0 | h0
  · subst h0
    have hb0 : b = [] := List.eq_nil_of_length_eq_zero hrn
    subst hb0
    refine ⟨w, fun ty => ?_, by simpa [patch] using h, Fr.refl _ _⟩
    have e : partV PB o (o + 0) = .slice (some ⟨PB, 0, none⟩) 0 0 := by simp [partV]
    rw [e]
    exact run_copy_none w 34 34 ty 5 _ A _ _ 0 c Try.underlying34 (by kernel_rfl) (Nat.zero_min _)
  · obtain ⟨ad, hA, hcell⟩ := hr.2 h0
    subst hA
    have e : partV PB o (o + n) = .slice (some ⟨PB, o, none⟩) n n := by unfold partV; rw [Nat.add_sub_cancel_left, if_neg (by omega)]
    have hth := h.there (o := o) (n := n) (by simp [cellsB_len]; omega)
    refine ⟨_, fun ty => by
      have h := run_copy_cells (P := Try.prog) w 34 34 ty 5 PB o n n ad n c (cellsB b) Try.underlying34 (by kernel_rfl) (by rw [cellsB_len, hrn]; exact (Nat.min_self n).symm)
        (fun j v hv => by
          rw [cellsB, List.getElem?_map] at hv
          obtain ⟨ch, hch, rfl⟩ := Option.map_eq_some_iff.1 hv
          exact hcell j ch hch)
        (fun j hj => (hth j (by rw [cellsB_len, hrn] at hj; exact hj)).1) (fun j hj => (hth j (by rw [cellsB_len, hrn] at hj; exact hj)).2) (cellsB_one _)
      rw [cellsB_len, hrn] at h
      rw [e]
      exact h, ?_, Fr.setCells (F := fun k => k = PB) (.inl rfl) (Fr.refl _ _)⟩
    exact h.over (o := o) (m := b) (by omega)
set_option maxRecDepth 100000 in
theorem run_copy_op {P : Program} {o : Oper} {a : Act} {w w' : World} {v : Value} (d s : Operand) (t : TypeId) (ho : o.op = .call { callee := .builtin .copy, args := #[d, s], argTypes := #[t, t] }) {dv sv : Value} (hd : a.eval d = dv) (hs : a.eval s = sv)
    (h : ∀ ty, (Builtin.copy_ #[t, t] ty #[dv, sv]).run P w = .ok v w') : (execOp a.eval o).run P w = .ok (.value v) w' := by
  have h := h o.type
  unfold execOp
  simp only [ho, resolve, invoke, builtin, Sem.run_bind, Sem.run_pure, Result.andThen_ok, List.map_toArray, List.map_cons, List.map_nil, hd, hs, h]
section
variable {w : World}
set_option maxRecDepth 100000 in
set_option maxHeartbeats 4000000 in
theorem packed_any {A : Option Addr} {n c kind next : Nat} {s : List Rec} (hn : n = s.length) (hnc : n ≤ c) (hn9 : n ≤ 200) (hR : RecsAt w A s) (hk4 : kind ≤ 4) (hx : next ≤ 2147483647) (hsz : 12 + 4 * (trim s).length + tot (trim s) ≤ 512) :
    Calls Try.prog 32 #[.int .i64 kind, .int .i64 next, .slice A n c] w fun e w' => e = .returned (av (PD.mk kind next (trim s)).bytes) ∧ Fr (fun _ => False) w w' := by
  obtain ⟨t, ht⟩ : ∃ t, t = trim s := ⟨_, rfl⟩
  obtain ⟨K, hK⟩ : ∃ K, K = trimK s s.length := ⟨_, rfl⟩
  have htK : t.length = K := by rw [ht, hK]; exact trim_len s
  obtain ⟨W0, hW0⟩ : ∃ W0, W0 = w.alloc (.cells (cellsB (nought 512)).toArray 26) := ⟨_, rfl⟩
  have f0 : Fr (fun _ => False) w W0 := by rw [hW0]; exact (Fr.refl (fun _ => False) w).alloc (.cells (cellsB (nought 512)).toArray 26)
  have hb0 : Blk W0 w.heap.size 26 (cellsB (nought 512)).toArray := by rw [hW0]; exact Blk.new w 26 (cellsB (nought 512)).toArray
  have hs0 : W0.heap.size = w.heap.size + 1 := by rw [hW0]; show (w.heap.push _).size = _; simp
  have htR : RecsAt W0 A t := fun i o hi => by
    refine hR.new f0 i o ?_
    rw [ht] at hi
    unfold trim at hi
    rw [List.getElem?_take] at hi
    split at hi
    · exact hi
    · cases hi
  rw [← ht] at hsz ⊢
  obtain ⟨L, hL⟩ : ∃ L, L = (PD.mk kind next t).bytes := ⟨_, rfl⟩
  rw [← hL]
  have HL := Lib.hid hL
  have HB0 := Lib.hid (And.intro hb0 (And.intro f0 hs0))
  have HS := Lib.hid (And.intro hn (And.intro (hR.new f0) (And.intro ht hK)))
  have HT0 := Lib.hid (And.intro htK (And.intro htR hsz))
  have HW0 := Lib.hid hW0
  have hus := Try.underlying93
  clear hn hR hsz f0 hb0 hs0 htR htK ht hK hW0 hL
  go_enter Try.func32, Try.ntmps32
  go_wp2_with (refine wpList_zero rfl 26 rfl zeroPage ?_)
  simp only [Act.put, List.setIfInBounds_toArray, List.set_cons_zero, List.set_cons_succ]
  go_loopw [2] (fun v wr => ∃ k : Nat, v = .slice A k c ∧ k ≤ n ∧ Hid (trimK s k = K) ∧ W0 = wr) (fun v _ => match v with | .slice _ k _ => k | _ => 0)
  case atStart => exact ⟨n, rfl, Nat.le_refl _, Lib.hid (by rw [HS.out.2.2.2, HS.out.1]), HW0.out⟩
  case round =>
    obtain ⟨k, rfl, hk, HT, rfl⟩ := hrel
    by_cases hmore : ∃ j, k = j + 1 ∧ isB s j = false
    · obtain ⟨j, rfl, hb⟩ := hmore
      obtain ⟨o, ho⟩ : ∃ o, s[j]? = some o := ⟨_, List.getElem?_eq_getElem (by have := HS.out.1; omega)⟩
      have hon : o = none := by
        cases o with
        | none => rfl
        | some b => rw [isB_iff.2 ⟨b, ho⟩] at hb; cases hb
      subst hon
      obtain ⟨CB, u0, u1, rfl, c0, c1, rfl, rfl⟩ := HS.out.2.1 j none ho
      have HT2 : Hid (trimK s j = K) := Lib.hid (by
        have := HT.out
        unfold trimK at this
        rw [hb] at this
        simpa using this)
      have hc1 : (((j : Int) + 1) - 1) = (j : Int) := by omega
      have hi0 : (0 : Int) ≤ (j : Int) := by omega
      have hjc : (j : Int) ≤ (c : Int) := by omega
      have hsl : ∀ W, (Instr.slice 93 (.slice (some ⟨CB, 0, none⟩) (j + 1) c) none (some (.int .i64 (j : Int))) none).run Try.prog W = .ok (.slice (some ⟨CB, 0, none⟩) j c) W := fun W => by
        rw [run_slice_h W 93 _ _ _ Try.underlying93 .i64 j (by omega) (by omega)]
        have hz : (sizeOf (Try.prog.elem 93)).run Try.prog W = .ok 2 W := by go_simp
        rw [hz]
        simp [Result.andThen, sliced, addr_add]
      clear ho hb HT
      go_wp2_with fail
      refine ⟨⟨j, rfl, by omega, HT2, by first | rfl | trivial⟩, by simp⟩
    · have hkK : k = K := by
        have := HT.out
        cases k with
        | zero => simpa [trimK] using this
        | succ j =>
          unfold trimK at this
          have hb : isB s j = true := by
            cases hq : isB s j with
            | true => rfl
            | false => exact absurd ⟨j, rfl, hq⟩ hmore
          rw [hb] at this
          simpa using this
      subst hkK
      have htest : Hid (0 < k → ∃ CB b u1, A = some ⟨CB, 0, none⟩ ∧ W0.cell? ⟨CB, (k - 1) * 2, none⟩ = some (.bool true) ∧ t[k - 1]? = some (some b) ∧ u1 = (0 : Nat)) := Lib.hid fun h0 => by
        obtain ⟨b, hb⟩ := trim_last s (i := k - 1) (by rw [← HS.out.2.2.1, HT0.out.1]; omega)
        rw [← HS.out.2.2.1] at hb
        obtain ⟨CB, u0, u1, h1, h2, h3, rfl, _⟩ := HT0.out.2.1 (k - 1) _ hb
        exact ⟨CB, b, 0, h1, h2, hb, rfl⟩
      have hk125 : k ≤ 125 := by have := HT0.out.2.2; have := HT0.out.1; omega
      clear HT hmore hk HW0
      obtain ⟨PB, hPB⟩ : ∃ PB, PB = W0.heap.size := ⟨_, rfl⟩
      obtain ⟨W1, hW1⟩ : ∃ W1, W1 = W0.alloc (.cells (cellsB (nought 512)).toArray 26) := ⟨_, rfl⟩
      have HW1' : Blk W1 PB 26 (cellsB (nought 12 ++ nought 500)).toArray ∧ Fr (fun _ => False) W0 W1 ∧ W0.heap.size ≤ PB ∧ PB < W1.heap.size := by
        have h1 : Blk W1 PB 26 (cellsB (nought 512)).toArray := by rw [hW1, hPB]; exact Blk.new _ _ _
        refine ⟨by rw [← nought_split (n := 512) rfl]; exact h1, by rw [hW1]; exact (Fr.refl _ _).alloc _, by omega, h1.lt⟩
      by_cases h0 : k = 0
      · have hgt : decide ((k : Int) > 0) = false := by simp; omega
        have hgt' : decide (0 < k) = false := by simp; omega
        have hkk := Lib.hid h0
        clear htest h0
        go_wp2_with (refine wpList_zero rfl 26 rfl zeroPage ?_)
        rw [← hW1, ← hPB]
        clear hW1 hPB hgt hgt'
        have HW1 := Lib.hid HW1'
        go_loopw [8, 32] (fun u i wr => ∃ j : Nat, i = .int .i64 j ∧ j ≤ k ∧ u = .int .i64 (512 - tot (t.take j) : Nat) ∧ Hid (Blk wr PB 26 (cellsB (part (nought 12) (t.take j))).toArray) ∧ Hid (Fr (fun _ => False) W0 wr)) (fun _ i _ => k - (intOf i).toNat)
        case atStart => exact ⟨0, rfl, Nat.zero_le _, by simp [tot], Lib.hid (by have := HW1.out.1; rw [List.take_zero, part_nil]; exact this), Lib.hid HW1.out.2.1⟩
        case round =>
          obtain ⟨j, rfl, hj, rfl, HP, HF⟩ := hrel
          by_cases hlt : j < k
          · exact absurd hlt (by have := hkk.out; omega)
          · obtain rfl : j = k := by omega
            have het : t.take j = t := List.take_of_length_le (by have := HT0.out.1; omega)
            rw [het] at HP
            have hen : 512 - tot (t.take j) = 512 - tot t := by rw [het]
            rw [hen]
            obtain ⟨en, hen2⟩ : ∃ en, en = 512 - tot t := ⟨_, rfl⟩
            rw [← hen2]
            have hen9 : en ≤ 512 := by omega
            have HEn := Lib.hid hen2
            have hpl : (part (nought 12) t).length = 512 := part_len (nought_len _) (by have := HT0.out.1; have := HT0.out.2.2; omega)
            have q0 := HP.out.set_ 0 (.int .u8 ((UInt8.ofNat kind).toNat : Int))
            have q1 : Blk (wr.setCell ⟨PB, 0, none⟩ (.int .u8 (kind : Int))) PB 26 (cellsB (patch (part (nought 12) t) 0 [UInt8.ofNat kind])).toArray := by
              have e : ((UInt8.ofNat kind).toNat : Int) = (kind : Int) := by simp; omega
              have e2 := patch_snoc (l := part (nought 12) t) (m := []) (q := UInt8.ofNat kind) (o := 0) (by simp [hpl])
              rw [e] at q0
              simp only [List.length_nil, Nat.add_zero, List.nil_append] at e2
              have e3 : patch (part (nought 12) t) 0 [] = part (nought 12) t := by simp [patch]
              rw [e3] at e2
              rw [← e2]
              have e' : (kind : Int) % 256 = (kind : Int) := by omega
              simpa [cellsB, List.map_set, e'] using q0
            have c0 : ∃ v, wr.cell? ⟨PB, 0, none⟩ = some v := by
              rw [HP.out.cell]
              exact ⟨_, Array.getElem?_eq_getElem (by simp [cellsB_len, hpl])⟩
            obtain ⟨v0, c0⟩ := c0
            have r0 := HP.out.frozen 0
            have hl1 : (patch (part (nought 12) t) 0 [UInt8.ofNat kind]).length = 512 := by rw [patch_len] <;> simp [hpl]
            have C1 := putnum_any (o := 2) (n := 510) (c := 510) (x := j) (s := 2) q1 (by omega) (by omega) (by omega) (by omega) (by omega)
            have HQ := Lib.hid (And.intro hpl hl1)
            have hk8 : IntKind.u8.wrap (kind : Int) = (kind : Int) := by
              simp [IntKind.wrap, IntKind.signed, IntKind.bits]; omega
            have f1 : Fr (fun q => q = PB) wr (wr.setCell ⟨PB, 0, none⟩ (.int .u8 (kind : Int))) := (Fr.refl (fun q => q = PB) wr).setCell (p := ⟨PB, 0, none⟩) (.inl rfl) _
            have HF1 := Lib.hid (HF.out.trans f1 (fun i hi q => by have := HW1.out.2.2.1; omega))
            have hs2 := page_from PB (z := 2) (o := 2) rfl (by omega)
            have hs4 := page_from PB (z := 4) (o := 4) rfl (by omega)
            have hs8 := page_from PB (z := 8) (o := 8) rfl (by omega)
            clear q0 q1 hpl hl1 f1 het hen hen2 hlt hj
            go_wp2_with fail
            refine C1.mono ?_
            rintro e w1 ⟨rfl, h2, g1⟩
            have hl2 : (patch (patch (part (nought 12) t) 0 [UInt8.ofNat kind]) 2 (be j 2)).length = 512 := by rw [patch_len] <;> simp [be_len, HQ.out.2]
            have C2 := putnum_any (o := 4) (n := 508) (c := 508) (x := en) (s := 2) h2 (by omega) (by omega) (by omega) (by omega) (by omega)
            have HF2 := Lib.hid (HF1.out.trans g1 (fun i hi q => by have := HW1.out.2.2.1; omega))
            have HQ2 := Lib.hid hl2
            clear C1 h2 g1 hl2 HF1 c0 r0
            go_wp2_with fail
            refine C2.mono ?_
            rintro e w2 ⟨rfl, h3, g2⟩
            have hl3 : (patch (patch (patch (part (nought 12) t) 0 [UInt8.ofNat kind]) 2 (be j 2)) 4 (be en 2)).length = 512 := by rw [patch_len] <;> simp [be_len, HQ2.out]
            have C3 := putnum_any (o := 8) (n := 504) (c := 504) (x := next) (s := 4) h3 (by omega) (by omega) (by omega) (by omega) (by omega)
            rw [part_made] at C3
            have HF3 := Lib.hid (HF2.out.trans g2 (fun i hi q => by have := HW1.out.2.2.1; omega))
            clear C2 h3 g2 HF2 HQ2 hl3
            go_wp2_with fail
            refine C3.mono ?_
            rintro e w3 ⟨rfl, h4, g3⟩
            have HF4 := Lib.hid (HF3.out.trans g3 (fun i hi q => by have := HW1.out.2.2.1; omega))
            have hbytes : part (hd kind j en next) t = L := by
              rw [HL.out]
              unfold PD.bytes
              rw [HT0.out.1, ← HEn.out]
            rw [hbytes] at h4
            have hll : L.length = 512 := by
              rw [HL.out]
              unfold PD.bytes
              exact part_len (hd_len _ _ _ _) (by have := HT0.out.1; have := HT0.out.2.2; omega)
            have hbR := HB0.out.1.keep HF4.out (fun q => q)
            have HG := Lib.hid (And.intro h4 (And.intro hbR hll))
            have hrg : Hid (w3.rangeAt PB 0 (cellsB L)) := Lib.hid (by
              have := h4.range 0 512
              rwa [List.drop_zero, List.take_of_length_le (by omega)] at this)
            have hbo := hbR.over (o := 0) (m := L) (by rw [nought_len]; omega)
            rw [patch_all (by rw [nought_len]; omega)] at hbo
            have HE := Lib.hid (And.intro hbo (Fr.setCells (F := fun _ => False) (b := w.heap.size) (vs := cellsB L) (o := 0) (.inr (Nat.le_refl _)) (HB0.out.2.1.trans HF4.out (fun _ _ q => q))))
            clear C3 h4 g3 HF3 hbytes hbR hll hbo HB0 HS HT0
            go_wp2_with (first
              | (refine wpList_load_mid rfl 26 _ rfl PB 0 rfl (cellsB L) _ hrg.out Try.underlying26 rfl (by rw [infoPage, cellsB_len, HG.out.2.2]) ?_)
              | (refine wpList_store_mid rfl 26 _ _ rfl w.heap.size 0 (cellsB L).toArray rfl rfl (HG.out.2.1.there (by simp [cellsB_len, nought_len, HG.out.2.2])) (by rw [infoPage]; simp [cellsB_len, HG.out.2.2]) (all_oneCell_toArray (cellsB_one _)) ?_))
            refine bodyPost_ret (results_cell_row rfl _ _ w.heap.size 26 (cellsB L).toArray (0, 0) _ rfl HE.out.1 Try.underlying26 rfl (by rw [infoPage]; simp [cellsB_len, HG.out.2.2])) rfl ⟨rfl, HE.out.2⟩
      · obtain ⟨CB, b, u1, rfl, c0, hb, _⟩ := htest.out (by omega)
        obtain ⟨j, hj⟩ : ∃ j, j = k - 1 := ⟨_, rfl⟩
        rw [← hj] at c0
        have hc1 : ((k : Int) - 1) = (j : Int) := by omega
        have hi0 : (0 : Int) ≤ (j : Int) := by omega
        have hi1 : (j : Int) < (k : Int) := by omega
        have hgt : decide ((k : Int) > 0) = true := by simp; omega
        have hgt' : decide (0 < k) = true := by simp; omega
        clear htest hb hj h0
        go_wp2_with (refine wpList_zero rfl 26 rfl zeroPage ?_)
        rw [← hW1, ← hPB]
        clear hW1 hPB hc1 hi0 hi1 hgt hgt' c0
        have HW1 := Lib.hid HW1'
        go_loopw [8, 32] (fun u i wr => ∃ j : Nat, i = .int .i64 j ∧ j ≤ k ∧ u = .int .i64 (512 - tot (t.take j) : Nat) ∧ Hid (Blk wr PB 26 (cellsB (part (nought 12) (t.take j))).toArray) ∧ Hid (Fr (fun _ => False) W0 wr)) (fun _ i _ => k - (intOf i).toNat)
        case atStart => exact ⟨0, rfl, Nat.zero_le _, by simp [tot], Lib.hid (by have := HW1.out.1; rw [List.take_zero, part_nil]; exact this), Lib.hid HW1.out.2.1⟩
        case round =>
          obtain ⟨j, rfl, hj, rfl, HP, HF⟩ := hrel
          by_cases hlt : j < k
          · obtain ⟨o, ho⟩ : ∃ o, t[j]? = some o := ⟨_, List.getElem?_eq_getElem (by have := HT0.out.1; omega)⟩
            obtain ⟨CB', u0, u1, hA, c0, c1, hrv⟩ := (HT0.out.2.1.new HF.out) j o ho
            obtain rfl : CB = CB' := by injection hA with hA; injection hA
            have hsn := tot_snoc ho
            have htl := tot_take_le t (j + 1)
            have hsz := HT0.out.2.2
            have htk := HT0.out.1
            have htj : (t.take j).length = j := by rw [List.length_take]; omega
            obtain ⟨en, hen⟩ : ∃ en, en = 512 - tot (t.take j) := ⟨_, rfl⟩
            rw [← hen]
            have hen9 : en ≤ 512 := by omega
            have hi0 : (0 : Int) ≤ (j : Int) := by omega
            have hi1 : (j : Int) < (k : Int) := by omega
            obtain ⟨xb, hxb⟩ : ∃ xb, xb = wr.heap.size := ⟨_, rfl⟩
            have hxP : PB < xb := by have := HP.out.lt; omega
            cases o with
            | none =>
              obtain ⟨rfl, rfl⟩ := hrv
              have hP2 : part (nought 12) (t.take (j + 1)) = part (nought 12) (t.take j) := by
                rw [Go.Proofs.Ytijdbngjnhhheaa.take_snoc ho]
                exact part_none (by rw [htj]; omega)
              have HO := Lib.hid (And.intro hP2 (show 512 - tot (t.take (j + 1)) = en by rw [hen, hsn]; rfl))
              have fx := (Fr.refl (fun _ => False) wr).alloc (.cells #[.bool false, .slice none 0 0] 70)
              have HPx := Lib.hid (HP.out.keep fx (fun q => q))
              have HFx := Lib.hid (HF.out.trans fx (fun _ _ q => q))
              clear ho hA hsn htl hsz htk htj hen hP2 fx
              go_wp2_with fail
              exact ⟨⟨j + 1, by go_num, by omega, by rw [HO.out.2], Lib.hid (by rw [HO.out.1]; exact HPx.out), HFx⟩, by simp [intOf]; omega⟩
            | some b =>
              obtain ⟨rfl, RA, rc, rfl, hrd⟩ := hrv
              simp only [rl, Option.getD_some] at hsn
              obtain ⟨n, hn⟩ : ∃ n, n = b.length := ⟨_, rfl⟩
              rw [← hn] at hrd c1 hsn
              obtain ⟨o, hoo⟩ : ∃ o, o = en - n := ⟨_, rfl⟩
              have hon : en = o + n := by omega
              have hsub : ((en : Int) - (n : Int)) = (o : Int) := by omega
              have hpl : (part (nought 12) (t.take j)).length = 512 := part_len (nought_len _) (by rw [htj]; omega)
              have hP2 : patch (patch (part (nought 12) (t.take j)) o b) (12 + 4 * j) (be o 2 ++ be n 2) = part (nought 12) (t.take (j + 1)) := by
                rw [Go.Proofs.Ytijdbngjnhhheaa.take_snoc ho]
                have := part_some (h := nought 12) (b := b) (s := t.take j) (nought_len _) (by rw [htj, ← hn]; omega)
                rw [htj, ← hn, ← hen, ← hoo] at this
                exact this
              have hl2 : (patch (part (nought 12) (t.take j)) o b).length = 512 := by rw [patch_len] <;> rw [hpl]; omega
              have HO := Lib.hid (And.intro hP2 (And.intro (show 512 - tot (t.take (j + 1)) = o by omega) (And.intro hl2 hpl)))
              obtain ⟨W2, hW2⟩ : ∃ W2, W2 = wr.alloc (.cells #[.bool true, .slice RA n rc] 70) := ⟨_, rfl⟩
              obtain ⟨W3, hW3⟩ : ∃ W3, W3 = W2.alloc (.cells #[.int .i64 o, .int .i64 n] 90) := ⟨_, rfl⟩
              obtain ⟨sb, hsb⟩ : ∃ sb, sb = W2.heap.size := ⟨_, rfl⟩
              have fx : Fr (fun _ => False) wr W2 := by rw [hW2]; exact (Fr.refl (fun _ => False) wr).alloc _
              have fy : Fr (fun _ => False) W2 W3 := by rw [hW3]; exact (Fr.refl (fun _ => False) W2).alloc _
              have fxy := fx.trans fy (fun _ _ q => q)
              have bx : Blk W3 xb 70 #[.bool true, .slice RA n rc] := Blk.keep (w := W2) (by rw [hW2, hxb]; exact Blk.new _ _ _) fy (fun q => q)
              have bs : Blk W3 sb 90 #[.int .i64 o, .int .i64 n] := by rw [hW3, hsb]; exact Blk.new _ _ _
              have hxs : xb < sb := by
                have : Blk W2 xb 70 #[.bool true, .slice RA n rc] := by rw [hW2, hxb]; exact Blk.new _ _ _
                have := this.lt
                omega
              have HB4 := Lib.hid (And.intro bs (And.intro bx (And.intro (HP.out.keep fxy (fun q => q)) (hrd.keep fxy (fun _ _ q => q)))))
              have HF3 := Lib.hid (HF.out.trans fxy (fun _ _ q => q))
              have hsl : ∀ W, (Instr.sliceAt 26 (.pointer (some ⟨PB, 0, none⟩)) (some (.int .i64 o)) (some (.int .i64 en)) (some (.int .i64 en))).run Try.prog W = .ok (partV PB o en) W := page_lhm PB rfl rfl (by omega) hen9
              have HSB : Hid (sb = xb + 1) := Lib.hid (by rw [hsb, hW2, hxb]; show (wr.heap.push _).size = _; simp)
              have HWW := Lib.hid (And.intro hxb (And.intro hW2 (And.intro hW3 hsb)))
              have HN := Lib.hid (And.intro hn hon)
              have hn9 : n ≤ 512 := by omega
              have ho9 : o ≤ 512 := by omega
              clear ho hA hsn htl hsz htk htj hen hP2 hl2 hpl fx fy fxy bx bs hW2 hW3 hsb hxb hrd hoo hon hn
              go_upto_region 10 with (fail)
              rw [← HWW.out.1, ← HWW.out.2.1]
              rw [← HSB.out, ← HWW.out.2.2.1]
              refine wp_region_held_drew (S := fun w' => Blk w' sb 90 #[.int .i64 o, .int .i64 n] ∧ Blk w' xb 70 #[.bool true, .slice RA n rc]) (by kernel_rfl) (⟨HB4.out.1, HB4.out.2.1⟩) (fun hS0 => ?_)
              refine anyH_take 0 49 (.pointer (some ⟨sb, 0, none⟩)) rfl rfl (by kernel_rfl) (by kernel_rfl) (by kernel_rfl) (fun _ _ _ h => h) (.inl ⟨by rfl, fun w'' hS => by go_simp⟩) hS0 ?_
              (simp only [List.setIfInBounds_toArray, List.set_cons_zero, List.set_cons_succ])
              refine anyH_take 1 50 (.int .i64 o) rfl rfl (by kernel_rfl) (by kernel_rfl) (by kernel_rfl) (fun _ _ _ h => h) (.inl ⟨by rfl, fun w'' hS => by have q0 := hS.1.cell 0; simp at q0; go_simp⟩) hS0 ?_
              (simp only [List.setIfInBounds_toArray, List.set_cons_zero, List.set_cons_succ])
              refine anyH_take 2 51 (.int .i64 en) rfl rfl (by kernel_rfl) (by kernel_rfl) (by kernel_rfl) (fun _ _ _ h => h) (.inl ⟨by rfl, fun w'' hS => by go_simp⟩) hS0 ?_
              (simp only [List.setIfInBounds_toArray, List.set_cons_zero, List.set_cons_succ])
              refine anyH_take 3 52 (.int .i64 en) rfl rfl (by kernel_rfl) (by kernel_rfl) (by kernel_rfl) (fun _ _ _ h => h) (.inl ⟨by rfl, fun w'' hS => by go_simp⟩) hS0 ?_
              (simp only [List.setIfInBounds_toArray, List.set_cons_zero, List.set_cons_succ])
              refine anyH_take 4 53 (partV PB o en) rfl rfl (by kernel_rfl) (by kernel_rfl) (by kernel_rfl) (fun _ _ _ h => h) (.inl ⟨by rfl, fun w'' hS => by have q0 := hsl w''; go_simp⟩) hS0 ?_
              (simp only [List.setIfInBounds_toArray, List.set_cons_zero, List.set_cons_succ])
              refine anyH_take 5 54 (.pointer (some ⟨xb, 1, none⟩)) rfl rfl (by kernel_rfl) (by kernel_rfl) (by kernel_rfl) (fun _ _ _ h => h) (.inl ⟨by rfl, fun w'' hS => by go_simp⟩) hS0 ?_
              (simp only [List.setIfInBounds_toArray, List.set_cons_zero, List.set_cons_succ])
              refine anyH_take 6 55 (.slice RA n rc) rfl rfl (by kernel_rfl) (by kernel_rfl) (by kernel_rfl) (fun _ _ _ h => h) (.inl ⟨by rfl, fun w'' hS => by have q0 := hS.2.cell 1; simp at q0; go_simp⟩) hS0 ?_
              (simp only [List.setIfInBounds_toArray, List.set_cons_zero, List.set_cons_succ])
              obtain ⟨w4, hcp, hb4, f4⟩ := copy_into (w := W3.drew) (o := o) (n := n) (c := rc) HB4.out.2.2.1 (by have := HO.out.2.2.2; have := HN.out.2; omega) HB4.out.2.2.2
              rw [← HN.out.2] at hcp
              have bs4 := Blk.keep (w := W3.drew) HB4.out.1 f4 (by omega)
              have bx4 := Blk.keep (w := W3.drew) HB4.out.2.1 f4 (by omega)
              refine anyH_value 7 56 (goInt n) w4 (by kernel_rfl) rfl rfl (by rfl) (run_copy_op (.tmp 53) (.tmp 55) 34 rfl rfl rfl hcp) ⟨bs4, bx4⟩ ?_
              refine wpAnyH_done (by kernel_rfl) ?_ _
              have HF4 := Lib.hid (HF3.out.drew.trans f4 (fun i hi q => by have := HW1.out.2.2.1; omega))
              have s0 := bs4.cell 0
              have s1 := bs4.cell 1
              simp at s0 s1
              have C5 := putSpan_any hb4 HO.out.2.2.1 (i := j) (b := o) (n := n) (by omega) (by omega) (by omega)
              rw [HO.out.1] at C5
              have HB5 := Lib.hid bs4
              clear hcp hb4 f4 bs4 bx4 HB4 HF3 hsl
              go_wp2_with fail
              refine C5.mono ?_
              rintro e w5 ⟨rfl, h5, f5⟩
              have HF5 := Lib.hid (HF4.out.trans f5 (fun i hi q => by have := HW1.out.2.2.1; omega))
              have HP5 := Lib.hid h5
              have bs5 := HB5.out.keep f5 (by omega)
              have t0 := bs5.cell 0
              simp at t0
              clear C5 h5 f5 bs5 HB5 HF4 s0 s1
              go_wp2_with fail
              exact ⟨⟨j + 1, by go_num, by omega, by rw [HO.out.2.1], HP5, HF5⟩, by simp [intOf]; omega⟩
          · obtain rfl : j = k := by omega
            have het : t.take j = t := List.take_of_length_le (by have := HT0.out.1; omega)
            rw [het] at HP
            have hen : 512 - tot (t.take j) = 512 - tot t := by rw [het]
            rw [hen]
            obtain ⟨en, hen2⟩ : ∃ en, en = 512 - tot t := ⟨_, rfl⟩
            rw [← hen2]
            have hen9 : en ≤ 512 := by omega
            have HEn := Lib.hid hen2
            have hpl : (part (nought 12) t).length = 512 := part_len (nought_len _) (by have := HT0.out.1; have := HT0.out.2.2; omega)
            have q0 := HP.out.set_ 0 (.int .u8 ((UInt8.ofNat kind).toNat : Int))
            have q1 : Blk (wr.setCell ⟨PB, 0, none⟩ (.int .u8 (kind : Int))) PB 26 (cellsB (patch (part (nought 12) t) 0 [UInt8.ofNat kind])).toArray := by
              have e : ((UInt8.ofNat kind).toNat : Int) = (kind : Int) := by simp; omega
              have e2 := patch_snoc (l := part (nought 12) t) (m := []) (q := UInt8.ofNat kind) (o := 0) (by simp [hpl])
              rw [e] at q0
              simp only [List.length_nil, Nat.add_zero, List.nil_append] at e2
              have e3 : patch (part (nought 12) t) 0 [] = part (nought 12) t := by simp [patch]
              rw [e3] at e2
              rw [← e2]
              have e' : (kind : Int) % 256 = (kind : Int) := by omega
              simpa [cellsB, List.map_set, e'] using q0
            have c0 : ∃ v, wr.cell? ⟨PB, 0, none⟩ = some v := by
              rw [HP.out.cell]
              exact ⟨_, Array.getElem?_eq_getElem (by simp [cellsB_len, hpl])⟩
            obtain ⟨v0, c0⟩ := c0
            have r0 := HP.out.frozen 0
            have hl1 : (patch (part (nought 12) t) 0 [UInt8.ofNat kind]).length = 512 := by rw [patch_len] <;> simp [hpl]
            have C1 := putnum_any (o := 2) (n := 510) (c := 510) (x := j) (s := 2) q1 (by omega) (by omega) (by omega) (by omega) (by omega)
            have HQ := Lib.hid (And.intro hpl hl1)
            have hk8 : IntKind.u8.wrap (kind : Int) = (kind : Int) := by
              simp [IntKind.wrap, IntKind.signed, IntKind.bits]; omega
            have f1 : Fr (fun q => q = PB) wr (wr.setCell ⟨PB, 0, none⟩ (.int .u8 (kind : Int))) := (Fr.refl (fun q => q = PB) wr).setCell (p := ⟨PB, 0, none⟩) (.inl rfl) _
            have HF1 := Lib.hid (HF.out.trans f1 (fun i hi q => by have := HW1.out.2.2.1; omega))
            have hs2 := page_from PB (z := 2) (o := 2) rfl (by omega)
            have hs4 := page_from PB (z := 4) (o := 4) rfl (by omega)
            have hs8 := page_from PB (z := 8) (o := 8) rfl (by omega)
            clear q0 q1 hpl hl1 f1 het hen hen2 hlt hj
            go_wp2_with fail
            refine C1.mono ?_
            rintro e w1 ⟨rfl, h2, g1⟩
            have hl2 : (patch (patch (part (nought 12) t) 0 [UInt8.ofNat kind]) 2 (be j 2)).length = 512 := by rw [patch_len] <;> simp [be_len, HQ.out.2]
            have C2 := putnum_any (o := 4) (n := 508) (c := 508) (x := en) (s := 2) h2 (by omega) (by omega) (by omega) (by omega) (by omega)
            have HF2 := Lib.hid (HF1.out.trans g1 (fun i hi q => by have := HW1.out.2.2.1; omega))
            have HQ2 := Lib.hid hl2
            clear C1 h2 g1 hl2 HF1 c0 r0
            go_wp2_with fail
            refine C2.mono ?_
            rintro e w2 ⟨rfl, h3, g2⟩
            have hl3 : (patch (patch (patch (part (nought 12) t) 0 [UInt8.ofNat kind]) 2 (be j 2)) 4 (be en 2)).length = 512 := by rw [patch_len] <;> simp [be_len, HQ2.out]
            have C3 := putnum_any (o := 8) (n := 504) (c := 504) (x := next) (s := 4) h3 (by omega) (by omega) (by omega) (by omega) (by omega)
            rw [part_made] at C3
            have HF3 := Lib.hid (HF2.out.trans g2 (fun i hi q => by have := HW1.out.2.2.1; omega))
            clear C2 h3 g2 HF2 HQ2 hl3
            go_wp2_with fail
            refine C3.mono ?_
            rintro e w3 ⟨rfl, h4, g3⟩
            have HF4 := Lib.hid (HF3.out.trans g3 (fun i hi q => by have := HW1.out.2.2.1; omega))
            have hbytes : part (hd kind j en next) t = L := by
              rw [HL.out]
              unfold PD.bytes
              rw [HT0.out.1, ← HEn.out]
            rw [hbytes] at h4
            have hll : L.length = 512 := by
              rw [HL.out]
              unfold PD.bytes
              exact part_len (hd_len _ _ _ _) (by have := HT0.out.1; have := HT0.out.2.2; omega)
            have hbR := HB0.out.1.keep HF4.out (fun q => q)
            have HG := Lib.hid (And.intro h4 (And.intro hbR hll))
            have hrg : Hid (w3.rangeAt PB 0 (cellsB L)) := Lib.hid (by
              have := h4.range 0 512
              rwa [List.drop_zero, List.take_of_length_le (by omega)] at this)
            have hbo := hbR.over (o := 0) (m := L) (by rw [nought_len]; omega)
            rw [patch_all (by rw [nought_len]; omega)] at hbo
            have HE := Lib.hid (And.intro hbo (Fr.setCells (F := fun _ => False) (b := w.heap.size) (vs := cellsB L) (o := 0) (.inr (Nat.le_refl _)) (HB0.out.2.1.trans HF4.out (fun _ _ q => q))))
            clear C3 h4 g3 HF3 hbytes hbR hll hbo HB0 HS HT0
            go_wp2_with (first
              | (refine wpList_load_mid rfl 26 _ rfl PB 0 rfl (cellsB L) _ hrg.out Try.underlying26 rfl (by rw [infoPage, cellsB_len, HG.out.2.2]) ?_)
              | (refine wpList_store_mid rfl 26 _ _ rfl w.heap.size 0 (cellsB L).toArray rfl rfl (HG.out.2.1.there (by simp [cellsB_len, nought_len, HG.out.2.2])) (by rw [infoPage]; simp [cellsB_len, HG.out.2.2]) (all_oneCell_toArray (cellsB_one _)) ?_))
            refine bodyPost_ret (results_cell_row rfl _ _ w.heap.size 26 (cellsB L).toArray (0, 0) _ rfl HE.out.1 Try.underlying26 rfl (by rw [infoPage]; simp [cellsB_len, HG.out.2.2])) rfl ⟨rfl, HE.out.2⟩
end
end Go.Proofs.Ytijdbngjnhhheaa
