/- couponref02: Sectors. -/
import Derived.Test.YtbnegiiombnnaaaRhl
import Derived.Test.YtbnegiiombnnaaaApl
import Derived.RegionTactic
namespace Go.Proofs.Ytbnegiiombnnaaa
open Go.RowKit

/-- Halves, two by two. -/
def secL (ls : List (List UInt8)) (i : Nat) : List UInt8 := (ls[2 * i]?).getD (nought 64) ++ (ls[2 * i + 1]?).getD (nought 64)
def sectorsL (ls : List (List UInt8)) : List (List UInt8) := (List.range ((ls.length + 1) / 2)).map (secL ls)
def All64 (ls : List (List UInt8)) : Prop := ∀ l ∈ ls, l.length = 64
theorem secL_len {ls : List (List UInt8)} (h : All64 ls) (i : Nat) : (secL ls i).length = 128 := by
  have q : ∀ j : Nat, ((ls[j]?).getD (nought 64)).length = 64 := fun j => by
    cases hj : ls[j]? with
    | none => simp [nought]
    | some l => exact h l (List.mem_of_getElem? hj)
  unfold secL
  rw [List.length_append, q, q]
theorem sectorsL_len (ls : List (List UInt8)) : (sectorsL ls).length = (ls.length + 1) / 2 := by simp [sectorsL]
theorem sectorsL_take {ls : List (List UInt8)} {k : Nat} (h : k < (ls.length + 1) / 2) : ((sectorsL ls).take (k + 1)).flatten = ((sectorsL ls).take k).flatten ++ secL ls k := by
  have : (sectorsL ls)[k]? = some (secL ls k) := by simp [sectorsL, h]
  rw [List.take_add_one, this]
  simp
theorem flat_len {ls : List (List UInt8)} {k : Nat} (h : All64 ls) : (((sectorsL ls).take k).flatten).length = min k ((ls.length + 1) / 2) * 128 := by
  have q : ∀ l ∈ (sectorsL ls).take k, l.length = 128 := fun l hl => by
    obtain ⟨i, _, rfl⟩ := List.mem_map.1 (List.mem_of_mem_take hl)
    exact secL_len h i
  have e : ∀ xs : List (List UInt8), (∀ l ∈ xs, l.length = 128) → xs.flatten.length = xs.length * 128 := fun xs => by
    induction xs with
    | nil => intro _; rfl
    | cons x r ih =>
      intro hx
      rw [List.flatten_cons, List.length_append, hx x (by simp), ih (fun l hl => hx l (by simp [hl])), List.length_cons]
      omega
  rw [e _ q, List.length_take, sectorsL_len]

/-- Where the rows of a list lie. -/
theorem Lst.at_ {w : World} {base : Nat} {v : Value} {ls : List (List UInt8)} (h : Lst w base v ls) (hn : 0 < ls.length) : ∃ g cap, v = .slice (some ⟨g, 0, none⟩) ls.length cap ∧ base ≤ g ∧ g < w.heap.size ∧ ls.length ≤ cap ∧ cap ≤ maxLen ∧
    ∀ i l, ls[i]? = some l → ∃ A c, w.cell? ⟨g, i, none⟩ = some (.slice A l.length c) ∧ l.length ≤ c ∧ Rd w A l.length l ∧ (A = none → c = 0) := by
  obtain ⟨vs, h1, h2⟩ := h
  have h0 := h1
  rcases h1.2 with ⟨_, e⟩ | ⟨g, cap, cur, rfl, hb, hh, hnc, hcm, _⟩
  · omega
  · refine ⟨g, cap, rfl, hb, (h0.lt g rfl).2, hnc, hcm, fun i l hi => ?_⟩
    obtain ⟨A, c, k1, k2, k3, k5, _⟩ := h2.2 i l hi
    have := h0.cells (g := g) rfl i _ k1
    rw [Addr.add_lit, Nat.zero_add] at this
    exact ⟨A, c, this, k2, k3, k5⟩

/-- A half laid over a sector. -/
theorem copy_half {w : World} {S o n : Nat} {s l : List UInt8} (hS : Blk w S 37 (cellsB s).toArray) (hs : s.length = 128) {A : Option Addr} {c : Nat} (hr : Rd w A 64 l) (hn : o + n = 128) (h64 : 64 ≤ n) (ty : TypeId) :
    (Builtin.copy_ #[25, 25] ty #[.slice (some ⟨S, o, none⟩) n n, .slice A 64 c]).run Try.prog w = .ok (goInt 64) (w.setCells S o (cellsB l)) := by
  have hl := hr.len
  obtain ⟨ad, rfl, hcell⟩ := hr.2 (by omega)
  have h := run_copy_cells (P := Try.prog) w 25 25 ty 5 S o n n ad 64 c (cellsB l) Try.underlying25 (by kernel_rfl) (by rw [cellsB_len, hl]; exact (Nat.min_eq_left h64).symm)
    (fun j v hv => by
      obtain ⟨ch, hch, rfl⟩ := cellsB_get l j v hv
      exact hcell j ch hch)
    (fun j hj => ((hS.there (o := o) (n := 64) (by simp [cellsB_len, hs]; omega)) j (by rw [cellsB_len, hl] at hj; exact hj)).1) (fun j hj => ((hS.there (o := o) (n := 64) (by simp [cellsB_len, hs]; omega)) j (by rw [cellsB_len, hl] at hj; exact hj)).2) (cellsB_one _)
  rw [cellsB_len, hl] at h
  exact h

section
variable {ops : Array Oper} {o : Oper} {a : Act} {Q : Exit → Act → World → Prop}
theorem wpList_build_sec {rest : List Oper} {w : World} (hg : o.guard = none) (x : Operand) (hop : o.op = .buildSlice 27 1 #[(0, x)]) {l : List UInt8} (hl : l.length = 128) (hx : a.eval x = av l)
    (hK : wpList Try.prog ops Q rest (a.put o.dst (.slice (some ⟨w.heap.size, 0, none⟩) 1 1)) (w.alloc (.cells (cellsB l).toArray 37))) : wpList Try.prog ops Q (o :: rest) a w := by
  refine wpList_plain hg fun K hK' => ?_
  have hr := slice_of_one hl w
  unfold Oper.wp execOp
  simp only [hop, Array.map, hx]
  simp [hr, hx, Result.andThen]
  exact hK' _ _ hK
end

set_option maxRecDepth 100000 in
set_option maxHeartbeats 4000000 in
theorem rsectors_any {w : World} {base : Nat} {v : Value} {ls : List (List UInt8)} (h : Lst w base v ls) (h64 : All64 ls) (hn : ls.length ≤ 1000) :
    Calls Try.prog 27 #[v] w fun e w' => ∃ v', e = .returned v' ∧ w'.ownsRow w.heap.size 37 128 v' ((ls.length + 1) / 2) (cellsB (sectorsL ls).flatten) ∧ Fr (fun _ => False) w w' := by
  rcases Nat.eq_zero_or_pos ls.length with h0 | h0
  · obtain rfl := List.eq_nil_of_length_eq_zero h0
    obtain ⟨A, c, rfl, _, _⟩ := h.form
    clear h h64 hn h0
    have e : ([] : List (List UInt8)).length = 0 := rfl
    rw [e]
    clear e
    go_enter Try.func27, Try.ntmps27
    go_wp2_with fail
    go_loopw [3, 4, 5] (fun o x _ wr => o = .slice none 0 0 ∧ x = .int .i64 0 ∧ wr = w) (fun _ x _ _ => 0)
    case atStart => exact ⟨rfl, rfl, rfl⟩
    case round =>
      obtain ⟨rfl, rfl, rfl⟩ := hrel
      go_wp2_with fail
      go_ret
      exact ⟨_, rfl, World.ownsRow_nil _ _ _ _, Fr.refl _ _⟩
  · obtain ⟨g, cap, rfl, hb, hg, hnc, hcm, hat⟩ := h.at_ h0
    have HN := Lib.hid (And.intro hb (And.intro hg (And.intro hnc hcm)))
    have HAT : Hid (∀ W, Fr (fun _ => False) w W → ∀ i l, ls[i]? = some l → ∃ A c, W.cell? ⟨g, i, none⟩ = some (.slice A l.length c) ∧ l.length ≤ c ∧ Rd W A l.length l) := Lib.hid fun W f i l hi => by
      obtain ⟨A, c, k1, k2, k3, _⟩ := hat i l hi
      exact ⟨A, c, cell_new k1 f, k2, k3.keep f (fun _ _ q => q)⟩
    have H64 := Lib.hid h64
    clear hb hg hnc hcm hat h h64
    obtain ⟨n, hln⟩ : ∃ n, n = ls.length := ⟨_, rfl⟩
    rw [← hln] at hn h0 ⊢
    have HLN := Lib.hid hln
    clear hln
    go_enter Try.func27, Try.ntmps27
    go_wp2_with fail
    go_loopw [3, 4, 5] (fun o x _ wr => ∃ (k i : Nat) (v : Value), v = o ∧ x = .int .i64 i ∧ Hid (i = 2 * k) ∧ i ≤ n + 1 ∧ Hid (wr.ownsRow w.heap.size 37 128 v k (cellsB ((sectorsL ls).take k).flatten)) ∧ Hid (Fr (fun _ => False) w wr)) (fun _ x _ _ => n + 1 - (intOf x).toNat)
    case atStart => exact ⟨0, 0, _, rfl, rfl, Lib.hid rfl, by omega, Lib.hid (World.ownsRow_nil _ _ _ _), Lib.hid (Fr.refl _ _)⟩
    case round =>
      obtain ⟨k, i, v, rfl, rfl, HI, hk, HO, HF⟩ := hrel
      by_cases hlt : i < n
      · obtain ⟨l, hl⟩ : ∃ l, ls[i]? = some l := ⟨_, List.getElem?_eq_getElem (by have := HLN.out; omega)⟩
        have hl64 := H64.out l (List.mem_of_getElem? hl)
        have HFa := Lib.hid (HF.out.alloc (.cells (cellsB (nought 128)).toArray 37))
        obtain ⟨A, c, hc, hcc, hrd⟩ := HAT.out _ HFa.out i l hl
        rw [hl64] at hc hcc hrd
        have HS := Lib.hid (Blk.new wr 37 (cellsB (nought 128)).toArray)
        have hcp := copy_half (w := (wr.alloc (.cells (cellsB (nought 128)).toArray 37)).drew) (o := 0) (n := 128) (c := c) HS.out (nought_len _) hrd (by omega) (by omega)
        have hov := Blk.over (w := (wr.alloc (.cells (cellsB (nought 128)).toArray 37)).drew) (o := 0) (m := l) HS.out (by rw [hl64, nought_len]; omega)
        have hfs : Fr (fun _ => False) wr ((wr.alloc (.cells (cellsB (nought 128)).toArray 37)).drew.setCells wr.heap.size 0 (cellsB l)) := Fr.setCells (.inr (Nat.le_refl _)) (((Fr.refl _ wr).alloc _).drew)
        have HL := Lib.hid (And.intro hl (And.intro hl64 (And.intro hov hfs)))
        clear hl hl64 hcc hrd hk hov hfs HFa
        have hi0 : (0 : Int) ≤ (i : Int) := by omega
        have hi1 : (i : Int) < (n : Int) := by omega
        go_wp2_with (refine wpList_zero rfl 37 rfl zeroSector ?_)
        go_region
        have HW := Lib.hid (And.intro HL.out.2.2.1 HL.out.2.2.2)
        clear hcp hc HS
        generalize (wr.alloc (.cells (cellsB (nought 128)).toArray 37)).drew.setCells wr.heap.size 0 (cellsB l) = w1 at *
        have hp1 : patch (nought 128) 0 l = l ++ nought 64 := by
          have := patch_app [] (nought 128) l
          simpa [HL.out.2.1, nought_drop] using this
        have HP := Lib.hid hp1
        clear hp1
        by_cases hlt2 : i + 1 < n
        · obtain ⟨l2, hl2⟩ : ∃ l, ls[i + 1]? = some l := ⟨_, List.getElem?_eq_getElem (by have := HLN.out; omega)⟩
          have hl64 := H64.out l2 (List.mem_of_getElem? hl2)
          obtain ⟨A2, c2, hc2, hcc2, hrd2⟩ := HAT.out _ (HF.out.trans HW.out.2 (fun _ _ q => q)) (i + 1) l2 hl2
          rw [hl64] at hc2 hcc2 hrd2
          have hp2 : (patch (nought 128) 0 l).length = 128 := by rw [HP.out, List.length_append, HL.out.2.1, nought_len]
          have hcp := copy_half (w := w1.drew) (o := 64) (n := 64) (c := c2) HW.out.1 hp2 hrd2 (by omega) (by omega)
          have hov := Blk.over (w := w1.drew) (o := 64) (m := l2) HW.out.1 (by rw [hl64, hp2]; omega)
          have hfs : Fr (fun _ => False) wr (w1.drew.setCells wr.heap.size 64 (cellsB l2)) := Fr.setCells (.inr (Nat.le_refl _)) (HW.out.2.drew)
          have hsec : patch (patch (nought 128) 0 l) 64 l2 = secL ls k := by
            rw [HP.out]
            have := patch_app l (nought 64) l2
            rw [HL.out.2.1, hl64, nought_drop] at this
            rw [this]
            have e := HI.out
            subst e
            simp [secL, HL.out.1, hl2, nought]
          rw [hsec] at hov
          have HL2 := Lib.hid (And.intro hov hfs)
          clear hl2 hl64 hcc2 hrd2 hp2 hov hfs hsec
          have hj0 : (0 : Int) ≤ (i : Int) + 1 := by omega
          have hj1 : (i : Int) + 1 < (n : Int) := by omega
          have hjn : ((i : Int) + 1).toNat = i + 1 := by omega
          go_wp2_with fail
          go_region
          clear hcp hc2 hj0 hj1 hjn
          generalize w1.drew.setCells wr.heap.size 64 (cellsB l2) = w2 at *
          have hsl := secL_len H64.out k
          have hra : w2.rangeAt wr.heap.size 0 (cellsB (secL ls k)) := by
            have := HL2.out.1.range 0 128
            rw [List.drop_zero, List.take_of_length_le (Nat.le_of_eq hsl)] at this
            exact this
          have HR := Lib.hid (And.intro hra hsl)
          have hbig : Hid (k + 1 ≤ 1000000) := Lib.hid (by have := HI.out; omega)
          have hsz : Hid (w.heap.size ≤ (w2.alloc (.cells (cellsB (secL ls k)).toArray 37)).heap.size) := Lib.hid (by have := HF.out.size; have := HL2.out.2.size; simp; omega)
          clear hra hsl
          go_wp2_with (first
            | (refine wpList_load_mid rfl 37 _ rfl wr.heap.size 0 rfl (cellsB (secL ls k)) _ HR.out.1 Try.underlying37 rfl (by rw [infoSector, cellsB_len, HR.out.2]) ?_)
            | (refine wpList_build_sec rfl (.tmp 31) rfl HR.out.2 rfl ?_)
            | (refine wpList_append_row rfl (.tmp 30) (.tmp 32) rfl w.heap.size v k ((sectorsL ls).take k).flatten (secL ls k) (own_keep HO.out (HL2.out.2.alloc _) (fun _ _ q => q)) (R := w2.heap.size) (m := 1) (c := 1) (Blk.new w2 _ _) (by rw [HR.out.2]) rfl rfl hbig.out hsz.out ?_; intro v' w3 hown hgr; have HG := Lib.hid (And.intro hown hgr); clear hown hgr))
          refine ⟨⟨k + 1, i + 2, v', rfl, by go_num, Lib.hid (by have := HI.out; omega), by omega, Lib.hid ?_, Lib.hid ((HF.out.trans (HL2.out.2.alloc _) (fun _ _ q => q)).grown HG.out.2 (fun j hj => .inr (HO.out.lt j hj).1))⟩, by simp [intOf]; omega⟩
          rw [sectorsL_take (by have := HI.out; have := HLN.out; omega)]
          exact HG.out.1
        · have hsec : patch (nought 128) 0 l = secL ls k := by
            rw [HP.out]
            have e := HI.out
            subst e
            have hnone : ls[2 * k + 1]? = none := List.getElem?_eq_none (by have := HLN.out; omega)
            simp [secL, HL.out.1, hnone]
          have hbl := HW.out.1
          rw [hsec] at hbl
          have HL2 := Lib.hid (And.intro hbl HW.out.2)
          clear hbl hsec
          have hj1 : ¬ (i : Int) + 1 < (n : Int) := by omega
          have hsl := secL_len H64.out k
          have hra : w1.rangeAt wr.heap.size 0 (cellsB (secL ls k)) := by
            have := HL2.out.1.range 0 128
            rw [List.drop_zero, List.take_of_length_le (Nat.le_of_eq hsl)] at this
            exact this
          have HR := Lib.hid (And.intro hra hsl)
          have hbig : Hid (k + 1 ≤ 1000000) := Lib.hid (by have := HI.out; omega)
          have hsz : Hid (w.heap.size ≤ (w1.alloc (.cells (cellsB (secL ls k)).toArray 37)).heap.size) := Lib.hid (by have := HF.out.size; have := HL2.out.2.size; simp; omega)
          clear hra hsl
          go_wp2_with (first
            | (refine wpList_load_mid rfl 37 _ rfl wr.heap.size 0 rfl (cellsB (secL ls k)) _ HR.out.1 Try.underlying37 rfl (by rw [infoSector, cellsB_len, HR.out.2]) ?_)
            | (refine wpList_build_sec rfl (.tmp 31) rfl HR.out.2 rfl ?_)
            | (refine wpList_append_row rfl (.tmp 30) (.tmp 32) rfl w.heap.size v k ((sectorsL ls).take k).flatten (secL ls k) (own_keep HO.out (HL2.out.2.alloc _) (fun _ _ q => q)) (R := w1.heap.size) (m := 1) (c := 1) (Blk.new w1 _ _) (by rw [HR.out.2]) rfl rfl hbig.out hsz.out ?_; intro v' w3 hown hgr; have HG := Lib.hid (And.intro hown hgr); clear hown hgr))
          refine ⟨⟨k + 1, i + 2, v', rfl, by go_num, Lib.hid (by have := HI.out; omega), by omega, Lib.hid ?_, Lib.hid ((HF.out.trans (HL2.out.2.alloc _) (fun _ _ q => q)).grown HG.out.2 (fun j hj => .inr (HO.out.lt j hj).1))⟩, by simp [intOf]; omega⟩
          rw [sectorsL_take (by have := HI.out; have := HLN.out; omega)]
          exact HG.out.1
      · have he : k = (n + 1) / 2 := by have := HI.out; omega
        subst he
        have ho := HO.out
        rw [List.take_of_length_le (by rw [sectorsL_len, ← HLN.out]; exact Nat.le_refl _)] at ho
        have HO2 := Lib.hid ho
        clear ho HO
        have hge : ¬ (i : Int) < (n : Int) := by omega
        clear hlt
        go_wp2_with fail
        go_ret
        exact ⟨v, rfl, HO2.out, HF.out⟩
end Go.Proofs.Ytbnegiiombnnaaa
