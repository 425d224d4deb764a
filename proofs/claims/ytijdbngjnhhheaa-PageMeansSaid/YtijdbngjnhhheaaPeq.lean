/- Pages compared. -/
import Derived.Test.YtijdbngjnhhheaaPry
import Derived.ChangeKeysEq
namespace Go.Proofs.Ytijdbngjnhhheaa
open Go.RowKit

set_option maxRecDepth 100000 in
theorem eqItems_bytes (d : Nat) (l m : List UInt8) (w : World) : ∀ is : List Nat, (∀ i ∈ is, i < l.length ∧ i < m.length) → (Op.eqItems (d + 1) 5 (Try.prog.cellsOf 5) (cellsB l).toArray (cellsB m).toArray is).run Try.prog w = .ok (is.all fun i => l[i]? == m[i]?) w
  | [], _ => by simp [Op.eqItems]
  | i :: is, h => by
    have hc : Try.prog.cellsOf 5 = 1 := by kernel_rfl
    have ih := eqItems_bytes d l m w is (fun j hj => h j (by simp [hj]))
    rw [hc] at ih ⊢
    obtain ⟨h1, h2⟩ := h i (by simp)
    have e1 : (cellsB l).toArray[i * 1]? = some (.int .u8 (l[i].toNat : Int)) := by simp [cellsB, h1]
    have e2 : (cellsB m).toArray[i * 1]? = some (.int .u8 (m[i].toNat : Int)) := by simp [cellsB, h2]
    have hp : Try.prog.plainKey 5 = true := by kernel_rfl
    have hq : (Op.equalIn (d + 1) 5 (.int .u8 (l[i].toNat : Int)) (.int .u8 (m[i].toNat : Int))).run Try.prog w = .ok (l[i]? == m[i]?) w := by
      simp only [Op.equalIn, Sem.run_bind, run_underlying Try.underlying5, Result.andThen_ok]
      have e3 : ((l[i].toNat : Int) == (m[i].toNat : Int)) = (l[i]? == m[i]?) := by
        rw [List.getElem?_eq_getElem h1, List.getElem?_eq_getElem h2, Bool.eq_iff_iff]
        simp only [beq_iff_eq, Option.some.injEq]
        exact Int.natCast_inj.trans UInt8.toNat_inj
      simp [e3]
    simp only [Op.eqItems, Sem.run_bind, run_part_plain w hp e1, run_part_plain w hp e2, hq, Result.andThen_ok, List.all_cons]
    cases hb : (l[i]? == m[i]?) with
    | false => simp
    | true => simp [ih]
set_option maxRecDepth 100000 in
theorem page_same (l : List UInt8) (hl : l.length = 512) (w : World) : (Op.equal 26 (av l) (av l)).run Try.prog w = .ok true w := by
  obtain ⟨i0, hi, _⟩ := info_parts infoU8p
  have h := run_equalIn_array (P := Try.prog) w 9999 (t := 26) (cellsB l).toArray (cellsB l).toArray Try.underlying26 hi
  rw [eqItems_bytes 9998 l l w (List.range 512) (fun i hi => by have := List.mem_range.1 hi; omega)] at h
  have e : ((List.range 512).all fun i => l[i]? == l[i]?) = true := by
    rw [List.all_eq_true]
    intro i _
    simp
  rw [e] at h
  exact h
set_option maxRecDepth 100000 in
theorem page_neq (l : List UInt8) (hl : l.length = 512) (w : World) : (binOp .neq 26 (av l) (av l)).run Try.prog w = .ok (.bool false) w := by
  simp [binOp, page_same l hl w]
set_option maxRecDepth 100000 in
theorem page_eql (l : List UInt8) (hl : l.length = 512) (w : World) : (binOp .eql 26 (av l) (av l)).run Try.prog w = .ok (.bool true) w := by
  simp [binOp, page_same l hl w]
end Go.Proofs.Ytijdbngjnhhheaa
