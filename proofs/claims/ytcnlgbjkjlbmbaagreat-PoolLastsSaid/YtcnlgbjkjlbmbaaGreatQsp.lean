/- Pages copied over pages. -/
import Derived.Test.YtcnlgbjkjlbmbaaGreatQso
namespace Go.Proofs.YtcnlgbjkjlbmbaaGreat
open Go.RowKit

theorem run_copy_many {P : Program} (w : World) (dT sT ty elem : TypeId) (b o n dCap : Nat) (a : Addr) (sCap s : Nat) (cs : List Value)
 (hu : P.underlying dT = some (.slice elem)) (hs : (P.info? elem).map (·.size) = some s) (hn : cs.length = n * s)
 (hsrc : ∀ j v, cs[j]? = some v → w.cell? (a.add j) = some v) (hc : ∀ j, j < cs.length → (w.cell? ⟨b, o + j, none⟩).isSome = true) (hf : ∀ j, j < cs.length → w.frozen? ⟨b, o + j, none⟩ = false) (h1 : ∀ v ∈ cs, v.oneCell' = true) :
 (Builtin.copy_ #[dT, sT] ty #[.slice (some ⟨b, o, none⟩) n dCap, .slice (some a) n sCap]).run P w = .ok (goInt n) (w.setCells b o cs) := by
 have hl := run_loadCells_list (P := P) w a cs hsrc
 have hst := run_storeCells_cells (P := P) b o cs 0 w (by simpa using hc) (by simpa using hf) h1
 have hmin : Nat.min n n = n := Nat.min_self n
 rw [hn] at hl
 cases hq : P.info? elem with
 | none => simp [hq] at hs
 | some i =>
   have hi : i.size = s := by simpa [hq] using hs
   simp [Builtin.copy_, run_underlying hu, Builtin.lenOf, Builtin.firstCells, sizeOf, typeInfo, hq, hi, hl, storeCells, hst]
set_option maxRecDepth 100000 in
theorem copy_pages {w : World} {b : Nat} {v : Value} {l : List (List UInt8)} {cs0 : Array Value} (hb : Blk w b 50 cs0) (hsz : cs0.size = l.length * 512) (h : PgsV w v l) (hn : 0 < l.length) (ty : TypeId) :
 (Builtin.copy_ #[34, 34] ty #[.slice (some ⟨b, 0, none⟩) l.length l.length, v]).run Tryz.prog w = .ok (goInt l.length) (w.setCells b 0 (cellsB (flatP l))) := by
 obtain ⟨A, c, rfl, h1, h2, h3, h4⟩ := h
 obtain ⟨b', off, rfl, h5⟩ := h4 hn
 have hfl : (cellsB (flatP l)).length = l.length * 512 := by rw [cellsB_len, flatP_len h3]
 refine run_copy_many w 34 34 ty 50 b 0 l.length l.length ⟨b', off, none⟩ c 512 (cellsB (flatP l)) Tryz.underlying34 infoPgS hfl (fun j u hj => ?_) (fun j hj => ?_) (fun j hj => ?_) (cellsB_one _)
 · rw [Addr.add_mid]
   have hj2 : j < l.length * 512 := by have := (List.getElem?_eq_some_iff.1 hj).1; omega
   obtain ⟨x, hx⟩ : ∃ x, l[j / 512]? = some x := ⟨_, List.getElem?_eq_getElem (by omega)⟩
   have hxl := h3 x (List.mem_of_getElem? hx)
   obtain ⟨u2, hu2⟩ : ∃ u2, (cellsB x)[j % 512]? = some u2 := ⟨_, List.getElem?_eq_getElem (by rw [cellsB_len, hxl]; omega)⟩
   have := flatP_at h3 hx (j % 512) u2 hu2
   rw [show j / 512 * 512 + j % 512 = j by omega, hj] at this
   injection this with e
   rw [e]
   have := h5 (j / 512) x hx (j % 512) u2 hu2
   rwa [show off + j / 512 * 512 + j % 512 = off + j by omega] at this
 · rw [hb.cell, Nat.zero_add, Array.getElem?_eq_getElem (by omega)]
   rfl
 · rw [Nat.zero_add]
   exact hb.frozen j
theorem copied {w : World} {b : Nat} {l : List (List UInt8)} {m : List UInt8} (hb : Blk w b 50 (cellsB m).toArray) (h : ∀ x ∈ l, x.length = 512) (hm : m.length = l.length * 512) : Blk (w.setCells b 0 (cellsB (flatP l))) b 50 (cellsB (flatP l)).toArray ∧ Fr (fun k => k = b) w (w.setCells b 0 (cellsB (flatP l))) := by
 have h1 := hb.over (o := 0) (m := flatP l) (by rw [flatP_len h, hm]; omega)
 rw [patch_all (by rw [flatP_len h, hm])] at h1
 exact ⟨h1, Fr.setCells (F := fun k => k = b) (.inl rfl) (Fr.refl _ _)⟩
end Go.Proofs.YtcnlgbjkjlbmbaaGreat

