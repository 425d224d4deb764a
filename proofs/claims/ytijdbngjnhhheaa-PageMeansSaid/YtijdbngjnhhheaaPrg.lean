/- The document's page: get, set. -/
import Derived.Test.YtijdbngjnhhheaaPrf
namespace Go.Proofs.Ytijdbngjnhhheaa
open Go.RowKit

set_option maxRecDepth 100000 in
theorem two_at {l : List UInt8} {p : Nat} (h : p + 2 ≤ l.length) : ∃ a b, l[p]? = some a ∧ l[p + 1]? = some b ∧ sub l p 2 = [a, b] := by
  obtain ⟨a, ha⟩ : ∃ a, l[p]? = some a := ⟨_, List.getElem?_eq_getElem (by omega)⟩
  obtain ⟨b, hb⟩ : ∃ b, l[p + 1]? = some b := ⟨_, List.getElem?_eq_getElem (by omega)⟩
  refine ⟨a, b, ha, hb, ?_⟩
  unfold sub
  have h1 : (l.drop p)[0]? = some a := by rw [List.getElem?_drop]; exact ha
  have h2 : (l.drop p)[1]? = some b := by rw [List.getElem?_drop]; exact hb
  cases hd : l.drop p with
  | nil => simp [hd] at h1
  | cons x t =>
    cases t with
    | nil => simp [hd] at h2
    | cons y t =>
      simp [hd] at h1 h2
      simp [h1, h2]
set_option maxRecDepth 100000 in
theorem wrap64 {z : Int} (h0 : -9223372036854775808 ≤ z) (h1 : z ≤ 9223372036854775807) : IntKind.i64.wrap z = z := by
  simp [IntKind.wrap, IntKind.signed, IntKind.bits]; omega
section
variable {w : World}
set_option maxRecDepth 100000 in
theorem get_page {l : List UInt8} (hl : l.length = 512) {p : Nat} (hp : p + 2 ≤ 512) : Calls Try.prog 69 #[av l, .int .i64 p] w fun e w' => e = .returned (.int .i64 (numOf (sub l p 2))) ∧ Fr (fun _ => False) w w' := by
  obtain ⟨a, b, ha, hb, hs⟩ := two_at (l := l) (p := p) (by omega)
  have hn : numOf (sub l p 2) = 256 * a.toNat + b.toNat := by rw [hs]; simp [numOf]; omega
  have ha9 : a.toNat < 256 := a.toNat_lt
  have hb9 : b.toNat < 256 := b.toNat_lt
  rw [hn]
  have hbk := Blk.new w 26 (cellsB l).toArray
  have f := (Fr.refl (fun _ => False) w).alloc (.cells (cellsB l).toArray 26)
  have c0 : ∀ w', Fr (fun _ => False) (w.alloc (.cells (cellsB l).toArray 26)) w' → w'.cell? ⟨w.heap.size, p, none⟩ = some (.int .u8 (a.toNat : Int)) := fun w' f => by
    rw [(hbk.keep f (fun q => q)).cell]; simp [cellsB, ha]
  have c1 : ∀ w', Fr (fun _ => False) (w.alloc (.cells (cellsB l).toArray 26)) w' → w'.cell? ⟨w.heap.size, p + 1, none⟩ = some (.int .u8 (b.toNat : Int)) := fun w' f => by
    rw [(hbk.keep f (fun q => q)).cell]; simp [cellsB, hb]
  have H0 := Lib.hid c0
  have H1 := Lib.hid c1
  have HF := Lib.hid f
  clear c0 c1 f hbk ha hb hs hn hl
  have hp0 : (0 : Int) ≤ (p : Int) := by omega
  have hp1 : (p : Int) < 512 := by omega
  have hp2 : (p : Int) + 1 < 512 := by omega
  have hp3 : (0 : Int) ≤ (p : Int) + 1 := by omega
  have hp4 : ((p : Int) + 1).toNat = p + 1 := by omega
  have W1 : IntKind.i64.wrap ((a.toNat : Nat) : Int) = a.toNat := wrap64 (by omega) (by omega)
  have W2 : IntKind.i64.wrap ((b.toNat : Nat) : Int) = b.toNat := wrap64 (by omega) (by omega)
  have W3 : IntKind.i64.wrap (256 * ((a.toNat : Nat) : Int)) = 256 * (a.toNat : Int) := wrap64 (by omega) (by omega)
  have W4 : IntKind.i64.wrap (256 * ((a.toNat : Nat) : Int) + (b.toNat : Int)) = 256 * (a.toNat : Int) + (b.toNat : Int) := wrap64 (by omega) (by omega)
  have W5 : IntKind.i64.wrap ((p : Int) + 1) = (p : Int) + 1 := wrap64 (by omega) (by omega)
  go_enter Try.func69, Try.ntmps69
  go_upto_region 1 with (refine wpList_put rfl 26 _ rfl (cellsB l).toArray rfl ?_)
  refine wp_region_held_drew (S := fun w' => Fr (fun _ => False) (w.alloc (.cells (cellsB l).toArray 26)) w') (by kernel_rfl) ((Fr.refl _ _).drew) (fun hS0 => ?_)
  refine anyH_take 0 5 (.int .i64 p) rfl rfl (by kernel_rfl) (by kernel_rfl) (by kernel_rfl) (fun _ _ _ h => h) (.inl ⟨by rfl, fun w'' hS => by go_simp⟩) hS0 ?_
  (simp only [List.setIfInBounds_toArray, List.set_cons_zero, List.set_cons_succ])
  refine anyH_take 1 6 (.pointer (some ⟨w.heap.size, p, none⟩)) rfl rfl (by kernel_rfl) (by kernel_rfl) (by kernel_rfl) (fun _ _ _ h => h) (.inl ⟨by rfl, fun w'' hS => by go_simp⟩) hS0 ?_
  (simp only [List.setIfInBounds_toArray, List.set_cons_zero, List.set_cons_succ])
  refine anyH_take 2 7 (.int .u8 (a.toNat : Int)) rfl rfl (by kernel_rfl) (by kernel_rfl) (by kernel_rfl) (fun _ _ _ h => h) (.inl ⟨by rfl, fun w'' hS => by have q0 := H0.out w'' hS; go_simp⟩) hS0 ?_
  (simp only [List.setIfInBounds_toArray, List.set_cons_zero, List.set_cons_succ])
  refine anyH_take 3 8 (.int .i64 (a.toNat : Int)) rfl rfl (by kernel_rfl) (by kernel_rfl) (by kernel_rfl) (fun _ _ _ h => h) (.inl ⟨by rfl, fun w'' hS => by go_simp⟩) hS0 ?_
  (simp only [List.setIfInBounds_toArray, List.set_cons_zero, List.set_cons_succ])
  refine anyH_take 4 9 (.int .i64 (256 * (a.toNat : Int))) rfl rfl (by kernel_rfl) (by kernel_rfl) (by kernel_rfl) (fun _ _ _ h => h) (.inl ⟨by rfl, fun w'' hS => by go_simp⟩) hS0 ?_
  (simp only [List.setIfInBounds_toArray, List.set_cons_zero, List.set_cons_succ])
  refine anyH_take 5 10 (.int .i64 p) rfl rfl (by kernel_rfl) (by kernel_rfl) (by kernel_rfl) (fun _ _ _ h => h) (.inl ⟨by rfl, fun w'' hS => by go_simp⟩) hS0 ?_
  (simp only [List.setIfInBounds_toArray, List.set_cons_zero, List.set_cons_succ])
  refine anyH_take 6 11 (.int .i64 ((p : Int) + 1)) rfl rfl (by kernel_rfl) (by kernel_rfl) (by kernel_rfl) (fun _ _ _ h => h) (.inl ⟨by rfl, fun w'' hS => by go_simp⟩) hS0 ?_
  (simp only [List.setIfInBounds_toArray, List.set_cons_zero, List.set_cons_succ])
  refine anyH_take 7 12 (.pointer (some ⟨w.heap.size, p + 1, none⟩)) rfl rfl (by kernel_rfl) (by kernel_rfl) (by kernel_rfl) (fun _ _ _ h => h) (.inl ⟨by rfl, fun w'' hS => by go_simp⟩) hS0 ?_
  (simp only [List.setIfInBounds_toArray, List.set_cons_zero, List.set_cons_succ])
  refine anyH_take 8 13 (.int .u8 (b.toNat : Int)) rfl rfl (by kernel_rfl) (by kernel_rfl) (by kernel_rfl) (fun _ _ _ h => h) (.inl ⟨by rfl, fun w'' hS => by have q0 := H1.out w'' hS; go_simp⟩) hS0 ?_
  (simp only [List.setIfInBounds_toArray, List.set_cons_zero, List.set_cons_succ])
  refine anyH_take 9 14 (.int .i64 (b.toNat : Int)) rfl rfl (by kernel_rfl) (by kernel_rfl) (by kernel_rfl) (fun _ _ _ h => h) (.inl ⟨by rfl, fun w'' hS => by go_simp⟩) hS0 ?_
  (simp only [List.setIfInBounds_toArray, List.set_cons_zero, List.set_cons_succ])
  refine anyH_take 10 15 (.int .i64 (256 * (a.toNat : Int) + (b.toNat : Int))) rfl rfl (by kernel_rfl) (by kernel_rfl) (by kernel_rfl) (fun _ _ _ h => h) (.inl ⟨by rfl, fun w'' hS => by go_simp⟩) hS0 ?_
  (simp only [List.setIfInBounds_toArray, List.set_cons_zero, List.set_cons_succ])
  refine anyH_take 11 4 (.int .i64 (256 * (a.toNat : Int) + (b.toNat : Int))) rfl rfl (by kernel_rfl) (by kernel_rfl) (by kernel_rfl) (fun _ _ _ h => h) (.inl ⟨by rfl, fun w'' hS => by go_simp⟩) hS0 ?_
  (simp only [List.setIfInBounds_toArray, List.set_cons_zero, List.set_cons_succ])
  refine wpAnyH_done (by kernel_rfl) ?_ _
  go_wp2_with fail
  go_ret
  exact ⟨by go_num, HF.out.trans hS0 (fun _ _ q => q)⟩
set_option maxRecDepth 100000 in
theorem set_page {P : Nat} {l : List UInt8} (h : Blk w P 26 (cellsB l).toArray) (hl : l.length = 512) {p n : Nat} (hp : p + 2 ≤ 512) (hn : n < 1000000) : Calls Try.prog 71 #[.pointer (some ⟨P, 0, none⟩), .int .i64 p, .int .i64 n] w fun e w' => e = .returned (.tuple #[]) ∧ Blk w' P 26 (cellsB (patch l p (be n 2))).toArray ∧ Fr (fun k => k = P) w w' := by
  have c0 : ∃ v, w.cell? ⟨P, p, none⟩ = some v := ⟨_, (h.cell p).trans (by simp [cellsB]; exact ⟨_, List.getElem?_eq_getElem (by omega), rfl⟩)⟩
  obtain ⟨x0, hx0⟩ : ∃ x, x = Value.int .u8 (((UInt8.ofNat (n / 256 % 256)).toNat : Nat) : Int) := ⟨_, rfl⟩
  obtain ⟨x1, hx1⟩ : ∃ x, x = Value.int .u8 (((UInt8.ofNat (n % 256)).toNat : Nat) : Int) := ⟨_, rfl⟩
  have hd : Blk w.drew P 26 (cellsB l).toArray := h
  have h0 := hd.set_ p x0
  have c1 : ∃ v, w.cell? ⟨P, p + 1, none⟩ = some v := ⟨_, (h.cell (p + 1)).trans (by simp [cellsB]; exact ⟨_, List.getElem?_eq_getElem (by omega), rfl⟩)⟩
  have hb0 : (n : Int) / 256 % 256 = ((UInt8.ofNat (n / 256 % 256)).toNat : Int) := by rw [UInt8.toNat_ofNat']; omega
  have hb1 : (n : Int) % 256 = ((UInt8.ofNat (n % 256)).toNat : Int) := by rw [UInt8.toNat_ofNat']; omega
  have h1 := h0.set_ (p + 1) x1
  have e : ((cellsB l).toArray.setIfInBounds p x0).setIfInBounds (p + 1) x1 = (cellsB (patch l p (be n 2))).toArray := by
    have e1 : ∀ (l : List UInt8) (i : Nat) (c : UInt8), (cellsB l).toArray.setIfInBounds i (.int .u8 (c.toNat : Int)) = (cellsB (l.set i c)).toArray := fun l i c => by
      simp [cellsB, List.map_set]
    rw [hx0, hx1, e1, e1, be_two]
    have e2 := patch_snoc (l := l) (m := []) (q := UInt8.ofNat (n / 256 % 256)) (o := p) (by simp; omega)
    have e3 := patch_snoc (l := l) (m := [UInt8.ofNat (n / 256 % 256)]) (q := UInt8.ofNat (n % 256)) (o := p) (by simp; omega)
    have e4 : patch l p [] = l := by simp [patch]
    rw [e4] at e2
    simp only [List.length_nil, Nat.add_zero, List.nil_append] at e2
    simp only [List.length_cons, List.length_nil, Nat.zero_add, List.cons_append, List.nil_append] at e3
    rw [e2, e3]
  rw [e] at h1
  have r0 := h.frozen p
  have r1 := h.frozen (p + 1)
  have hF : Fr (fun k => k = P) w ((w.drew.setCell ⟨P, p, none⟩ x0).setCell ⟨P, p + 1, none⟩ x1) := (((Fr.refl (fun k => k = P) w).drew).setCell (p := ⟨P, p, none⟩) (.inl rfl) _).setCell (p := ⟨P, p + 1, none⟩) (.inl rfl) _
  have HE := Lib.hid (And.intro h1 hF)
  obtain ⟨y0, c0⟩ := c0
  obtain ⟨y1, c1⟩ := c1
  have hp0 : (0 : Int) ≤ (p : Int) := by omega
  have hp1 : (p : Int) < 512 := by omega
  have hp2 : (p : Int) + 1 < 512 := by omega
  have hp3 : (0 : Int) ≤ (p : Int) + 1 := by omega
  have hp4 : ((p : Int) + 1).toNat = p + 1 := by omega
  rw [← hb0] at hx0
  rw [← hb1] at hx1
  clear h h0 hd h1 hl hF e hb0 hb1
  have W1 : IntKind.i64.wrap ((n : Int) / 256) = (n : Int) / 256 := wrap64 (by omega) (by omega)
  have W2 : IntKind.u8.wrap ((n : Int) / 256) = (n : Int) / 256 % 256 := by simp [IntKind.wrap, IntKind.signed, IntKind.bits]
  have W3 : IntKind.u8.wrap ((n : Int) % 256) = (n : Int) % 256 := by simp [IntKind.wrap, IntKind.signed, IntKind.bits]
  have W4 : (n : Int).tmod 256 = (n : Int) % 256 := Int.tmod_eq_emod_of_nonneg (by omega)
  have W6 : IntKind.i64.wrap ((n : Int) % 256) = (n : Int) % 256 := wrap64 (by omega) (by omega)
  have W5 : IntKind.i64.wrap ((p : Int) + 1) = (p : Int) + 1 := wrap64 (by omega) (by omega)
  go_enter Try.func71, Try.ntmps71
  refine wp_region_held_drew (S := fun _ => True) (by kernel_rfl) (trivial) (fun hS0 => ?_)
  refine anyH_take 0 6 (.pointer (some ⟨P, 0, none⟩)) rfl rfl (by kernel_rfl) (by kernel_rfl) (by kernel_rfl) (fun _ _ _ h => h) (.inl ⟨by rfl, fun w'' hS => by go_simp⟩) hS0 ?_
  (simp only [List.setIfInBounds_toArray, List.set_cons_zero, List.set_cons_succ])
  refine anyH_take 1 7 (.int .i64 p) rfl rfl (by kernel_rfl) (by kernel_rfl) (by kernel_rfl) (fun _ _ _ h => h) (.inl ⟨by rfl, fun w'' hS => by go_simp⟩) hS0 ?_
  (simp only [List.setIfInBounds_toArray, List.set_cons_zero, List.set_cons_succ])
  refine anyH_take 2 8 (.pointer (some ⟨P, 0, none⟩)) rfl rfl (by kernel_rfl) (by kernel_rfl) (by kernel_rfl) (fun _ _ _ h => h) (.inl ⟨by rfl, fun w'' hS => by go_simp⟩) hS0 ?_
  (simp only [List.setIfInBounds_toArray, List.set_cons_zero, List.set_cons_succ])
  refine anyH_take 3 9 (.int .i64 p) rfl rfl (by kernel_rfl) (by kernel_rfl) (by kernel_rfl) (fun _ _ _ h => h) (.inl ⟨by rfl, fun w'' hS => by go_simp⟩) hS0 ?_
  (simp only [List.setIfInBounds_toArray, List.set_cons_zero, List.set_cons_succ])
  refine anyH_take 4 10 (.int .i64 ((p : Int) + 1)) rfl rfl (by kernel_rfl) (by kernel_rfl) (by kernel_rfl) (fun _ _ _ h => h) (.inl ⟨by rfl, fun w'' hS => by go_simp⟩) hS0 ?_
  (simp only [List.setIfInBounds_toArray, List.set_cons_zero, List.set_cons_succ])
  refine anyH_take 5 11 (.int .i64 n) rfl rfl (by kernel_rfl) (by kernel_rfl) (by kernel_rfl) (fun _ _ _ h => h) (.inl ⟨by rfl, fun w'' hS => by go_simp⟩) hS0 ?_
  (simp only [List.setIfInBounds_toArray, List.set_cons_zero, List.set_cons_succ])
  refine anyH_take 6 12 (.int .i64 ((n : Int) / 256)) rfl rfl (by kernel_rfl) (by kernel_rfl) (by kernel_rfl) (fun _ _ _ h => h) (.inl ⟨by rfl, fun w'' hS => by go_simp⟩) hS0 ?_
  (simp only [List.setIfInBounds_toArray, List.set_cons_zero, List.set_cons_succ])
  refine anyH_take 7 13 x0 rfl rfl (by kernel_rfl) (by kernel_rfl) (by kernel_rfl) (fun _ _ _ h => h) (.inl ⟨by rfl, fun w'' hS => by rw [hx0]; go_simp⟩) hS0 ?_
  (simp only [List.setIfInBounds_toArray, List.set_cons_zero, List.set_cons_succ])
  refine anyH_take 8 14 (.int .i64 n) rfl rfl (by kernel_rfl) (by kernel_rfl) (by kernel_rfl) (fun _ _ _ h => h) (.inl ⟨by rfl, fun w'' hS => by go_simp⟩) hS0 ?_
  (simp only [List.setIfInBounds_toArray, List.set_cons_zero, List.set_cons_succ])
  refine anyH_take 9 15 (.int .i64 ((n : Int) % 256)) rfl rfl (by kernel_rfl) (by kernel_rfl) (by kernel_rfl) (fun _ _ _ h => h) (.inl ⟨by rfl, fun w'' hS => by go_simp⟩) hS0 ?_
  (simp only [List.setIfInBounds_toArray, List.set_cons_zero, List.set_cons_succ])
  refine anyH_take 10 16 x1 rfl rfl (by kernel_rfl) (by kernel_rfl) (by kernel_rfl) (fun _ _ _ h => h) (.inl ⟨by rfl, fun w'' hS => by rw [hx1]; go_simp⟩) hS0 ?_
  (simp only [List.setIfInBounds_toArray, List.set_cons_zero, List.set_cons_succ])
  refine anyH_take 11 17 (.pointer (some ⟨P, 0, none⟩)) rfl rfl (by kernel_rfl) (by kernel_rfl) (by kernel_rfl) (fun _ _ _ h => h) (.inl ⟨by rfl, fun w'' hS => by go_simp⟩) hS0 ?_
  (simp only [List.setIfInBounds_toArray, List.set_cons_zero, List.set_cons_succ])
  refine anyH_take 12 18 (.pointer (some ⟨P, p, none⟩)) rfl rfl (by kernel_rfl) (by kernel_rfl) (by kernel_rfl) (fun _ _ _ h => h) (.inl ⟨by rfl, fun w'' hS => by go_simp⟩) hS0 ?_
  (simp only [List.setIfInBounds_toArray, List.set_cons_zero, List.set_cons_succ])
  refine anyH_take 14 19 (.pointer (some ⟨P, 0, none⟩)) rfl rfl (by kernel_rfl) (by kernel_rfl) (by kernel_rfl) (fun _ _ _ h => h) (.inl ⟨by rfl, fun w'' hS => by go_simp⟩) hS0 ?_
  (simp only [List.setIfInBounds_toArray, List.set_cons_zero, List.set_cons_succ])
  refine anyH_skip 13 (w.drew.setCell ⟨P, p, none⟩ x0) (by kernel_rfl) rfl rfl (by rfl) (by go_simp) trivial ?_
  refine anyH_take 15 20 (.pointer (some ⟨P, p + 1, none⟩)) rfl rfl (by kernel_rfl) (by kernel_rfl) (by kernel_rfl) (fun _ _ _ h => h) (.inl ⟨by rfl, fun w'' hS => by go_simp⟩) trivial ?_
  (simp only [List.setIfInBounds_toArray, List.set_cons_zero, List.set_cons_succ])
  refine anyH_skip 16 ((w.drew.setCell ⟨P, p, none⟩ x0).setCell ⟨P, p + 1, none⟩ x1) (by kernel_rfl) rfl rfl (by rfl) (by go_simp) trivial ?_
  refine wpAnyH_done (by kernel_rfl) ?_ _
  go_wp2_with fail
  go_end0
  exact ⟨rfl, HE.out⟩
end
end Go.Proofs.Ytijdbngjnhhheaa
