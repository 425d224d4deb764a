/- couponref06: Commit, on pages and changes (pure). -/
import Derived.Test.YtcnlgbjkjlbmbaaGreatQbn
namespace Go.Proofs.YtcnlgbjkjlbmbaaGreat
open Go.RowKit

def setCh (pg : List (List UInt8)) (ch : List Chg) : List (List UInt8) := ch.foldl (fun pg c => pg.set c.n.toNat c.p) pg
theorem setCh_len (ch : List Chg) : ∀ pg : List (List UInt8), (setCh pg ch).length = pg.length := by
 induction ch with
 | nil => exact fun _ => rfl
 | cons c ch ih =>
   intro pg
   show (setCh (pg.set c.n.toNat c.p) ch).length = _
   rw [ih, List.length_set]
theorem setCh_snoc (pg : List (List UInt8)) (ch : List Chg) (c : Chg) : setCh pg (ch ++ [c]) = (setCh pg ch).set c.n.toNat c.p := by
 unfold setCh
 rw [List.foldl_append]
 rfl
theorem setCh_at {f : Nat → List UInt8} (i : Nat) : ∀ {l : List Nat} {pg : List (List UInt8)}, (∀ a ∈ l, a < pg.length) → (setCh pg (chgs f l))[i]? = if i ∈ l then some (f i) else pg[i]?
 | [], pg, _ => by simp [setCh, chgs]
 | a :: l, pg, h => by
   have ha := h a (by simp)
   have ih := setCh_at (f := f) i (l := l) (pg := pg.set a (f a)) (fun b hb => by rw [List.length_set]; exact h b (by simp [hb]))
   have e : setCh pg (chgs f (a :: l)) = setCh (pg.set a (f a)) (chgs f l) := rfl
   rw [e, ih]
   by_cases hl : i ∈ l
   · rw [if_pos hl, if_pos (by simp [hl])]
   · rw [if_neg hl]
     by_cases hia : i = a
     · subst hia
       rw [if_pos (by simp), List.getElem?_set_self ha]
     · rw [if_neg (by simp [hl, hia]), List.getElem?_set_ne (fun q => hia q.symm)]
def pagesOf (x : PX) : List (List UInt8) := (List.range x.N).map x.C
theorem pagesOf_len (x : PX) : (pagesOf x).length = x.N := by simp [pagesOf]
theorem pagesOf_at {x : PX} {n : Nat} (hn : n < x.N) : (pagesOf x)[n]? = some (x.C n) := by simp [pagesOf, hn]
theorem pagesOf_com {x y : PX} (hN : y.N = x.N) (hC : ∀ n, n < x.N → y.C n = x.V n) : setCh (pagesOf x) x.r = pagesOf y := by
 apply List.ext_getElem?
 intro i
 have hm : ∀ a ∈ openF x.f1 x.N, a < (pagesOf x).length := fun a ha => by rw [pagesOf_len]; exact (openF_mem.1 ha).1
 show (setCh (pagesOf x) (chgs x.f1 (openF x.f1 x.N)))[i]? = _
 rw [setCh_at i hm]
 by_cases hi : i < x.N
 · rw [pagesOf_at hi, pagesOf_at (x := y) (by rw [hN]; exact hi), hC i hi]
   unfold PX.V
   by_cases hf : x.f1 i ≠ []
   · rw [if_pos (openF_mem.2 ⟨hi, hf⟩), if_pos hf]
   · rw [if_neg (fun q => hf (openF_mem.1 q).2), if_neg hf]
 · rw [if_neg (fun q => hi (openF_mem.1 q).1), List.getElem?_eq_none (by rw [pagesOf_len]; omega), List.getElem?_eq_none (by rw [pagesOf_len, hN]; omega)]
end Go.Proofs.YtcnlgbjkjlbmbaaGreat

