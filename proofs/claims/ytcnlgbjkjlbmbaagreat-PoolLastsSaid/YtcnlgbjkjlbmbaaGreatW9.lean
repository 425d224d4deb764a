/- W9: laid together out of Kno. -/
import Derived.ChangeKeysEq
import Derived.Test.YtcnlgbjkjlbmbaaGreatW8
namespace Go.Proofs.YtcnlgbjkjlbmbaaGreat
open Go.RowKit Go.Maps

set_option maxRecDepth 100000 in
theorem eqItems_bytes (d : Nat) (l m : List UInt8) (w : World) : ∀ is : List Nat, (∀ i ∈ is, i < l.length ∧ i < m.length) → (Op.eqItems (d + 1) 5 (Tryz.prog.cellsOf 5) (cellsB l).toArray (cellsB m).toArray is).run Tryz.prog w = .ok (is.all fun i => l[i]? == m[i]?) w
 | [], _ => by simp [Op.eqItems]
 | i :: is, h => by
   have hc : Tryz.prog.cellsOf 5 = 1 := by kernel_rfl
   have ih := eqItems_bytes d l m w is (fun j hj => h j (by simp [hj]))
   rw [hc] at ih ⊢
   obtain ⟨h1, h2⟩ := h i (by simp)
   have e1 : (cellsB l).toArray[i * 1]? = some (.int .u8 (l[i].toNat : Int)) := by simp [cellsB, h1]
   have e2 : (cellsB m).toArray[i * 1]? = some (.int .u8 (m[i].toNat : Int)) := by simp [cellsB, h2]
   have hp : Tryz.prog.plainKey 5 = true := by kernel_rfl
   have hq : (Op.equalIn (d + 1) 5 (.int .u8 (l[i].toNat : Int)) (.int .u8 (m[i].toNat : Int))).run Tryz.prog w = .ok (l[i]? == m[i]?) w := by
    simp only [Op.equalIn, Sem.run_bind, run_underlying Tryz.underlying5, Result.andThen_ok]
    have e3 : ((l[i].toNat : Int) == (m[i].toNat : Int)) = (l[i]? == m[i]?) := by
     rw [List.getElem?_eq_getElem h1, List.getElem?_eq_getElem h2, Bool.eq_iff_iff]
     simp only [beq_iff_eq, Option.some.injEq]
     exact Int.natCast_inj.trans UInt8.toNat_inj
    simp [e3]
   simp only [Op.eqItems, Sem.run_bind, run_part_plain w hp e1, run_part_plain w hp e2, hq, Result.andThen_ok, List.all_cons]
   cases hb : (l[i]? == m[i]?) with
   | false => simp
   | true => simp [ih]
set_option maxRecDepth 100000 in
theorem all_same {l m : List UInt8} (hl : l.length = m.length) : ((List.range l.length).all fun i => l[i]? == m[i]?) = decide (l = m) := by
 rw [Bool.eq_iff_iff, List.all_eq_true, decide_eq_true_eq]
 constructor
 · intro h
   apply List.ext_getElem? 
   intro i
   by_cases hi : i < l.length
   · simpa using h i (List.mem_range.2 hi)
   · rw [List.getElem?_eq_none (by omega), List.getElem?_eq_none (by omega)]
 · rintro rfl i _
   simp
set_option maxRecDepth 100000 in
theorem sec_equal (l m : List UInt8) (hl : l.length = 128) (hm : m.length = 128) (w : World) : (Op.equal 83 (av l) (av m)).run Tryz.prog w = .ok (decide (l = m)) w := by
 obtain ⟨i0, hi, _⟩ := info_parts infoU8
 have h := run_equalIn_array (P := Tryz.prog) w 9999 (t := 83) (cellsB l).toArray (cellsB m).toArray Tryz.underlying83 hi
 rw [eqItems_bytes 9998 l m w (List.range 128) (fun i hi => by have := List.mem_range.1 hi; omega)] at h
 have e := all_same (l := l) (m := m) (by omega)
 rw [hl] at e
 rw [e] at h
 exact h
set_option maxRecDepth 100000 in
theorem sec_neq (l m : List UInt8) (hl : l.length = 128) (hm : m.length = 128) (w : World) : (binOp .neq 83 (av l) (av m)).run Tryz.prog w = .ok (.bool (!decide (l = m))) w := by
 simp [binOp, sec_equal l m hl hm w]

end Go.Proofs.YtcnlgbjkjlbmbaaGreat


