/- The document's page: Bytes. -/
import Derived.Test.YtijdbngjnhhheaaPrg
namespace Go.Proofs.Ytijdbngjnhhheaa
open Go.RowKit

/-- The head, but for where the records begin. -/
def head0 (k m n : Nat) : List UInt8 := patch (patch (patch (patch (nought 12) 0 [UInt8.ofNat k]) 2 (be m 2)) 8 (be (n / 65536) 2)) 10 (be (n % 65536) 2)
set_option maxRecDepth 100000 in
theorem head0_len (k m n : Nat) : (head0 k m n).length = 12 := by
  unfold head0
  have h1 : (patch (nought 12) 0 [UInt8.ofNat k]).length = 12 := by rw [patch_len] <;> simp [nought_len]
  have h2 : (patch (patch (nought 12) 0 [UInt8.ofNat k]) 2 (be m 2)).length = 12 := by rw [patch_len] <;> simp [be_len, h1]
  have h3 : (patch (patch (patch (nought 12) 0 [UInt8.ofNat k]) 2 (be m 2)) 8 (be (n / 65536) 2)).length = 12 := by rw [patch_len] <;> simp [be_len, h2]
  rw [patch_len] <;> simp [be_len, h3]
set_option maxRecDepth 100000 in
theorem head0_made (k m n : Nat) (s : List Rec) : patch (patch (patch (patch (part (nought 12) s) 0 [UInt8.ofNat k]) 2 (be m 2)) 8 (be (n / 65536) 2)) 10 (be (n % 65536) 2) = part (head0 k m n) s := by
  have h1 : (patch (nought 12) 0 [UInt8.ofNat k]).length = 12 := by rw [patch_len] <;> simp [nought_len]
  have h2 : (patch (patch (nought 12) 0 [UInt8.ofNat k]) 2 (be m 2)).length = 12 := by rw [patch_len] <;> simp [be_len, h1]
  have h3 : (patch (patch (patch (nought 12) 0 [UInt8.ofNat k]) 2 (be m 2)) 8 (be (n / 65536) 2)).length = 12 := by rw [patch_len] <;> simp [be_len, h2]
  rw [part_head (by simp [nought_len]), part_head (by simp [be_len, h1]), part_head (by simp [be_len, h2]), part_head (by simp [be_len, h3])]
  rfl
set_option maxRecDepth 100000 in
theorem head0_end (k m e n : Nat) (s : List Rec) : patch (part (head0 k m n) s) 4 (be e 2) = part (hd k m e n) s := by
  rw [part_head (by simp [be_len, head0_len])]
  congr 1
  have e1 : be (n / 65536) 2 = [UInt8.ofNat (n / 16777216 % 256), UInt8.ofNat (n / 65536 % 256)] := by
    rw [be_two, Nat.div_div_eq_div_mul]
  have e2 : be (n % 65536) 2 = [UInt8.ofNat (n / 256 % 256), UInt8.ofNat (n % 256)] := by
    have a1 : n % 65536 / 256 % 256 = n / 256 % 256 := by omega
    have a2 : n % 65536 % 256 = n % 256 := by omega
    rw [be_two, a1, a2]
  unfold head0
  rw [e1, e2]
  simp only [be_two, be_four, hd, nought, patch]
  rfl
set_option maxRecDepth 100000 in
theorem three_pages (w : World) (v0 v1 v2 : Value) : ∃ X, X = ((w.alloc (.cells #[v0, v1, v2] 74)).alloc (.cells (cellsB (nought 512)).toArray 26)).alloc (.cells (cellsB (nought 512)).toArray 26) ∧
    Blk X w.heap.size 74 #[v0, v1, v2] ∧ Blk X (w.heap.size + 1) 26 (cellsB (nought 512)).toArray ∧ Blk X (w.heap.size + 2) 26 (cellsB (nought 512)).toArray ∧ Fr (fun _ => False) w X ∧ X.heap.size = w.heap.size + 3 := by
  obtain ⟨X1, hX1⟩ : ∃ X, X = w.alloc (.cells #[v0, v1, v2] 74) := ⟨_, rfl⟩
  obtain ⟨X2, hX2⟩ : ∃ X, X = X1.alloc (.cells (cellsB (nought 512)).toArray 26) := ⟨_, rfl⟩
  obtain ⟨X3, hX3⟩ : ∃ X, X = X2.alloc (.cells (cellsB (nought 512)).toArray 26) := ⟨_, rfl⟩
  have z1 : X1.heap.size = w.heap.size + 1 := by rw [hX1]; show (w.heap.push _).size = _; simp
  have z2 : X2.heap.size = w.heap.size + 2 := by rw [hX2]; show (X1.heap.push _).size = _; simp [z1]
  have z3 : X3.heap.size = w.heap.size + 3 := by rw [hX3]; show (X2.heap.push _).size = _; simp [z2]
  have g1 : Fr (fun _ => False) w X1 := by rw [hX1]; exact (Fr.refl _ _).alloc _
  have g2 : Fr (fun _ => False) X1 X2 := by rw [hX2]; exact (Fr.refl _ _).alloc _
  have g3 : Fr (fun _ => False) X2 X3 := by rw [hX3]; exact (Fr.refl _ _).alloc _
  have b1 : Blk X3 w.heap.size 74 #[v0, v1, v2] := Blk.keep (w := X1) (by rw [hX1]; exact Blk.new _ _ _) (g2.trans g3 (fun _ _ q => q)) (fun q => q)
  have b2 : Blk X3 (w.heap.size + 1) 26 (cellsB (nought 512)).toArray := Blk.keep (w := X2) (by rw [hX2, ← z1]; exact Blk.new _ _ _) g3 (fun q => q)
  have b3 : Blk X3 (w.heap.size + 2) 26 (cellsB (nought 512)).toArray := by rw [hX3, ← z2]; exact Blk.new _ _ _
  exact ⟨X3, by rw [hX3, hX2, hX1], b1, b2, b3, (g1.trans g2 (fun _ _ q => q)).trans g3 (fun _ _ q => q), z3⟩
set_option maxRecDepth 100000 in
theorem set_calls {w : World} {P : Nat} {l : List UInt8} (h : Blk w P 26 (cellsB l).toArray) (hl : l.length = 512) {p n : Nat} {z y : Int} (hz : z = (p : Int)) (hy : y = (n : Int)) (hp : p + 2 ≤ 512) (hn : n < 1000000) : Calls Try.prog 71 #[.pointer (some ⟨P, 0, none⟩), .int .i64 z, .int .i64 y] w fun e w' => e = .returned (.tuple #[]) ∧ Blk w' P 26 (cellsB (patch l p (be n 2))).toArray ∧ Fr (fun k => k = P) w w' := by
  subst hz hy
  exact set_page h hl hp hn
section
variable {w : World} {A : Option Addr} {s : List Rec} {c : Nat}
set_option maxRecDepth 100000 in
set_option maxHeartbeats 4000000 in
theorem Bytes_any {kd nx : Nat} (k : (PD.mk kd nx s).Ok) (hR : RecsAt w A s) (hc : s.length ≤ c) :
    Calls Try.prog 49 #[.agg #[.int .i64 kd, .int .i64 nx, .slice A s.length c]] w fun e w' => e = .returned (av (PD.mk kd nx s).bytes) ∧ Fr (fun _ => False) w w' := by
  obtain ⟨m, hm⟩ : ∃ m, m = s.length := ⟨_, rfl⟩
  obtain ⟨X, hX, b1, b2, b3, f0, z0⟩ := three_pages w (.int .i64 kd) (.int .i64 nx) (.slice A m c)
  have hm9 : m ≤ 125 := by have := k.sz; simp only at this; omega
  have hsz := k.sz
  simp only at hsz
  have HX : Hid (∀ W, Fr (fun q => q = w.heap.size + 2) X W → W.cell? ⟨w.heap.size, 0, none⟩ = some (.int .i64 kd) ∧ W.cell? ⟨w.heap.size, 1, none⟩ = some (.int .i64 nx) ∧ W.cell? ⟨w.heap.size, 2, none⟩ = some (.slice A m c) ∧ RecsAt W A s ∧ Blk W (w.heap.size + 1) 26 (cellsB (nought 512)).toArray ∧ Fr (fun _ => False) w W) := Lib.hid fun W f => by
    have hb := b1.keep f (by omega)
    have fw := f0.trans f (fun q hq e => by omega)
    exact ⟨(hb.cell 0).trans rfl, (hb.cell 1).trans rfl, (hb.cell 2).trans rfl, hR.new fw, b2.keep f (by omega), fw⟩
  have hk4 := k.k
  have hn9 := k.n
  simp only at hk4 hn9
  have HB := Lib.hid (And.intro hm (And.intro hsz (And.intro k z0)))
  have hk8 : IntKind.u8.wrap (kd : Int) = ((UInt8.ofNat kd).toNat : Int) := by
    rw [UInt8.toNat_ofNat']; simp [IntKind.wrap, IntKind.signed, IntKind.bits]
  have h3 := b3.set_ 0 (.int .u8 ((UInt8.ofNat kd).toNat : Int))
  have e3 : (cellsB (nought 512)).toArray.setIfInBounds 0 (.int .u8 ((UInt8.ofNat kd).toNat : Int)) = (cellsB (patch (nought 512) 0 [UInt8.ofNat kd])).toArray := by
    have e1 : ∀ (l : List UInt8) (i : Nat) (c : UInt8), (cellsB l).toArray.setIfInBounds i (.int .u8 (c.toNat : Int)) = (cellsB (l.set i c)).toArray := fun l i c => by simp [cellsB, List.map_set]
    rw [e1]
    have e2 := patch_snoc (l := nought 512) (m := []) (q := UInt8.ofNat kd) (o := 0) (by simp [nought_len])
    have e4 : patch (nought 512) 0 [] = nought 512 := by simp [patch]
    rw [e4] at e2
    simp only [List.length_nil, Nat.add_zero, List.nil_append] at e2
    rw [e2]
  rw [e3] at h3
  have hx0 : ∃ v, X.cell? ⟨w.heap.size + 2, 0, none⟩ = some v := ⟨_, (b3.cell 0).trans (by simp [cellsB, nought]; rfl)⟩
  obtain ⟨x0, hx0⟩ := hx0
  have hr0 := b3.frozen 0
  obtain ⟨c0, c1, c2, -⟩ := HX.out X (Fr.refl _ _)
  have f1 : Fr (fun q => q = w.heap.size + 2) X (X.setCell ⟨w.heap.size + 2, 0, none⟩ (.int .u8 ((UInt8.ofNat kd).toNat : Int))) := (Fr.refl (fun q => q = w.heap.size + 2) X).setCell (p := ⟨w.heap.size + 2, 0, none⟩) (.inl rfl) _
  have HP1 := Lib.hid (And.intro h3 f1)
  rw [← hm] at hc ⊢
  obtain ⟨L, hL⟩ : ∃ L, L = (PD.mk kd nx s).bytes := ⟨_, rfl⟩
  rw [← hL]
  have HL := Lib.hid hL
  have HXX := Lib.hid hX
  have HR := Lib.hid hR
  clear hm hR b1 b2 b3 f0 z0 hsz k hk4 h3 e3 f1 hX hL
  go_enter Try.func49, Try.ntmps49
  go_upto_region 2 with (refine wpList_zero rfl 26 rfl zeroPage ?_)
  (simp only [← HXX.out])
  have HZ := Lib.hid (nought_len 512)
  have hl1 : (patch (nought 512) 0 [UInt8.ofNat kd]).length = 512 := by rw [patch_len] <;> simp [nought_len]
  have C1 := set_calls (p := 2) (n := m) (z := 2) (y := (m : Int)) HP1.out.1 hl1 rfl rfl (by omega) (by omega)
  go_wp2_with fail
  refine C1.mono ?_
  rintro e w1 ⟨rfl, h1, f1⟩
  have hl2 : (patch (patch (nought 512) 0 [UInt8.ofNat kd]) 2 (be m 2)).length = 512 := by rw [patch_len] <;> simp [be_len, hl1]
  have C2 := set_calls (p := 8) (n := nx / 65536) (z := 8) (y := (nx : Int) / 65536) h1 hl2 rfl (by omega) (by omega) (by omega)
  have HF1 := Lib.hid (HP1.out.2.trans f1 (fun _ _ q => q))
  obtain ⟨d0, d1, d2, -⟩ := HX.out w1 HF1.out
  have HL2 := Lib.hid hl2
  have V1 : IntKind.i64.wrap ((nx : Int) / 65536) = (nx : Int) / 65536 := wrap64 (by omega) (by omega)
  have V2 : (nx : Int).tmod 65536 = (nx : Int) % 65536 := Int.tmod_eq_emod_of_nonneg (by omega)
  have V3 : IntKind.i64.wrap ((nx : Int) % 65536) = (nx : Int) % 65536 := wrap64 (by omega) (by omega)
  clear c0 c1 c2 hx0 hr0 HP1 C1 h1 f1 hl1 hl2
  go_wp2_with fail
  refine C2.mono ?_
  rintro e w2 ⟨rfl, h2, f2⟩
  have hl3 : (patch (patch (patch (nought 512) 0 [UInt8.ofNat kd]) 2 (be m 2)) 8 (be (nx / 65536) 2)).length = 512 := by rw [patch_len] <;> simp [be_len, HL2.out]
  have C3 := set_calls (p := 10) (n := nx % 65536) (z := 10) (y := (nx : Int) % 65536) h2 hl3 rfl (by omega) (by omega) (by omega)
  have hn0 : nought 512 = part (nought 12) [] := by rw [part_nil]; exact nought_split rfl
  rw [hn0, head0_made] at C3
  have HF2 := Lib.hid (HF1.out.trans f2 (fun _ _ q => q))
  obtain ⟨c0, c1, c2, -⟩ := HX.out w2 HF2.out
  clear d0 d1 d2 HF1 C2 h2 f2 hl3 HL2 hn0
  go_wp2_with fail
  refine C3.mono ?_
  rintro e w3 ⟨rfl, h3, f3⟩
  obtain ⟨H, hH⟩ : ∃ H, H = head0 kd m nx := ⟨_, rfl⟩
  have HH := Lib.hid (And.intro hH (show H.length = 12 by rw [hH]; exact head0_len _ _ _))
  rw [← hH] at h3
  have HP3 := Lib.hid h3
  have HF3 := Lib.hid (HF2.out.trans f3 (fun _ _ q => q))
  clear c0 c1 c2 HF2 C3 h3 f3 hH V1 V2 V3
  go_wp2_with fail
  go_loopw [4, 5] (fun v i wr => ∃ j e : Nat, v = .int .i64 e ∧ i = .int .i64 j ∧ j ≤ m ∧ Hid (e = 512 - tot (s.take j)) ∧ Hid (Blk wr (w.heap.size + 2) 26 (cellsB (part H (s.take j))).toArray) ∧ Hid (Fr (fun q => q = w.heap.size + 2) X wr)) (fun _ i _ => m - (intOf i).toNat)
  case atStart => exact ⟨0, 512, rfl, rfl, Nat.zero_le _, Lib.hid (by simp [tot]), HP3, HF3⟩
  case round =>
    obtain ⟨j, e, rfl, rfl, hj, HE, HP, HF⟩ := hrel
    clear HP3 HF3
    obtain ⟨c0, c1, c2, -⟩ := HX.out wr HF.out
    have htl := tot_take_le s j
    by_cases hlt : j < m
    · obtain ⟨o, CB, u0, A1, k1, ho, rfl, q0, q1, hu, hrec⟩ := HR.out.slot (i := j) (by have := HB.out.1; omega)
      have htl2 := tot_take_le s (j + 1)
      have hsn := tot_snoc ho
      have hlj : (s.take j).length = j := by rw [List.length_take]; have := HB.out.1; omega
      have hi0 : (0 : Int) ≤ (j : Int) := by omega
      have hi1 : (j : Int) < (m : Int) := by omega
      have hb1 := World.block_lt_of_cell? w _ q0
      have HS : Hid (∀ W, Fr (fun q => q = w.heap.size + 2) X W → W.cell? ⟨CB, j * 2, none⟩ = some (.bool u0) ∧ W.cell? ⟨CB, j * 2 + 1, none⟩ = some (.slice A1 (rl o) k1)) := Lib.hid fun W f => by
        have fw := (HX.out W f).2.2.2.2.2
        exact ⟨(fw.cell hb1 (fun q => q)).trans q0, (fw.cell (World.block_lt_of_cell? w _ q1) (fun q => q)).trans q1⟩
      obtain ⟨x0, x1⟩ := HS.out wr HF.out
      cases o with
      | none =>
        obtain rfl : u0 = false := by rw [hu]; simp [isB, ho]
        have hpn : part H (s.take (j + 1)) = part H (s.take j) := by rw [take_snoc ho]; exact part_none (by have := HB.out.1; have := HB.out.2.1; rw [hlj]; omega)
        have HP2 : Hid (Blk wr (w.heap.size + 2) 26 (cellsB (part H (s.take (j + 1)))).toArray) := Lib.hid (by rw [hpn]; exact HP.out)
        have HE2 : Hid (e = 512 - tot (s.take (j + 1))) := Lib.hid (by have := HE.out; simp only [rl, Option.getD_none, List.length_nil] at hsn; omega)
        clear hu hrec ho htl htl2 hsn hlj hb1 q0 q1 HE HP hpn
        go_wp2_with fail
        exact ⟨⟨j + 1, e, by go_num, by go_num, by omega, HE2, HP2, HF⟩, by simp [intOf]; omega⟩
      | some b =>
        obtain rfl : u0 = true := by rw [hu]; simp [isB, ho]
        simp only [rl, Option.getD_some] at hsn x1 HS q1 hrec
        obtain ⟨-, A2, k2, hA2, hrd⟩ := hrec
        have hA2' : A2 = A1 := by injection hA2 with h _ _; exact h.symm
        subst hA2'
        obtain ⟨r, hr⟩ : ∃ r, r = b.length := ⟨_, rfl⟩
        rw [← hr] at hsn x1 HS hrd
        obtain ⟨q, hq⟩ : ∃ q, q = 512 - tot (s.take j) - b.length := ⟨_, rfl⟩
        have HRd : Hid (∀ W, Fr (fun q => q = w.heap.size + 2) X W → Rd W A2 r b) := Lib.hid fun W f => hrd.keep (HX.out W f).2.2.2.2.2 (fun _ _ q => q)
        have HQ := Lib.hid (And.intro hq (And.intro hr (And.intro ho (And.intro hlj (And.intro htl2 hsn)))))
        have hqe : (e : Int) - (r : Int) = (q : Int) := by have := HE.out; have := HB.out.2.1; omega
        have hq9 : q + r ≤ 512 := by have := HB.out.2.1; omega
        have hr9 : r ≤ 512 := by omega
        have he9 : e ≤ 512 := by have := HE.out; omega
        have hw1 : IntKind.i64.wrap ((e : Int) - (r : Int)) = (q : Int) := by rw [hqe]; exact wrap64 (by omega) (by omega)
        have HPL : Hid ((part H (s.take j)).length = 512) := Lib.hid (part_len HH.out.2 (by have := HB.out.2.1; have := HB.out.1; rw [hlj]; omega))
        clear hu hA2 hrd hr hq ho htl htl2 hsn hlj hb1 q0 q1
        go_wp2_with fail
        generalize wr = wo at *
        go_loopw [6] (fun v wk => ∃ k : Nat, v = .int .i64 k ∧ k ≤ r ∧ Hid (Blk wk (w.heap.size + 2) 26 (cellsB (patch (part H (s.take j)) q (b.take k))).toArray) ∧ Hid (Fr (fun q => q = w.heap.size + 2) X wk)) (fun v _ => r - (intOf v).toNat)
        case atStart => exact ⟨0, rfl, Nat.zero_le _, Lib.hid (by have := HP.out; simpa [patch] using this), HF⟩
        case round =>
          obtain ⟨k, rfl, hk, HPk, HFk⟩ := hrel
          clear c0 c1 c2 x0 x1 HP HF
          obtain ⟨c0, c1, c2, -⟩ := HX.out wr HFk.out
          obtain ⟨x0, x1⟩ := HS.out wr HFk.out
          have hlk : (b.take k).length = k := by rw [List.length_take]; have := HQ.out.2.1; omega
          have hpl : (patch (part H (s.take j)) q (b.take k)).length = 512 := by
            rw [patch_len (by rw [hlk, HPL.out]; omega), HPL.out]
          by_cases hkr : k < r
          · obtain ⟨ad, y, hA1, hy, hcell⟩ := (HRd.out wr HFk.out).at_ (k := k) hkr
            subst hA1
            have hput := HPk.out.set_ (q + k) (.int .u8 (y.toNat : Int))
            have e1 : (cellsB (patch (part H (s.take j)) q (b.take k))).toArray.setIfInBounds (q + k) (.int .u8 (y.toNat : Int)) = (cellsB (patch (part H (s.take j)) q (b.take (k + 1)))).toArray := by
              have e2 := patch_snoc (l := part H (s.take j)) (m := b.take k) (q := y) (o := q) (by rw [hlk, HPL.out]; omega)
              rw [hlk] at e2
              rw [take_snoc_b hy, ← e2]
              simp [cellsB, List.map_set]
            rw [e1] at hput
            have HPut := Lib.hid hput
            have z0 : ∃ v, wr.cell? ⟨w.heap.size + 2, q + k, none⟩ = some v := ⟨_, (HPk.out.cell (q + k)).trans (by simp [cellsB]; exact ⟨_, List.getElem?_eq_getElem (by omega), rfl⟩)⟩
            obtain ⟨z0v, z0⟩ := z0
            have zr := HPk.out.frozen (q + k)
            have hpk : ((q : Int) + (k : Int)).toNat = q + k := by omega
            have hk0 : (0 : Int) ≤ (k : Int) := by omega
            have hk1 : (k : Int) < (r : Int) := by omega
            have hk2 : (0 : Int) ≤ (q : Int) + (k : Int) := by omega
            have hk3 : (q : Int) + (k : Int) < 512 := by omega
            have V1 : IntKind.i64.wrap ((q : Int) + (k : Int)) = (q : Int) + (k : Int) := wrap64 (by omega) (by omega)
            have HF2 := Lib.hid (HFk.out.setCell (p := ⟨w.heap.size + 2, q + k, none⟩) (.inl rfl) (.int .u8 (y.toNat : Int)))
            clear hput e1 hlk hpl hy HPk HFk
            go_wp2_with fail
            exact ⟨⟨k + 1, by go_num, hkr, HPut, HF2⟩, by simp [intOf]; omega⟩
          · obtain rfl : r = k := by omega
            have hbk : b.take r = b := List.take_of_length_le (by have := HQ.out.2.1; omega)
            have hP := HPk.out
            rw [hbk] at hP hpl
            have hjm : 12 + 4 * j + 4 ≤ 512 := by omega
            have C1 := set_calls (p := 12 + 4 * j) (n := q) (z := 12 + 4 * (j : Int)) (y := (q : Int)) hP hpl (by omega) rfl (by omega) (by omega)
            have HPl := Lib.hid hpl
            clear hbk hP hpl hlk HPk hkr hk
            go_wp2_with fail
            refine C1.mono ?_
            rintro e' w4 ⟨rfl, h4, f4⟩
            have HF4 := Lib.hid (HFk.out.trans f4 (fun _ _ q => q))
            have hl4 : (patch (patch (part H (s.take j)) q b) (12 + 4 * j) (be q 2)).length = 512 := by rw [patch_len] <;> simp [be_len, HPl.out]; omega
            have C2 := set_calls (p := 14 + 4 * j) (n := r) (z := 14 + 4 * (j : Int)) (y := (r : Int)) h4 hl4 (by omega) rfl (by omega) (by omega)
            rw [patch_patch (o := 12 + 4 * j) (p := 14 + 4 * j) (by rw [be_len]; omega) (by rw [be_len, HPl.out]; omega)] at C2
            have hps : patch (patch (part H (s.take j)) q b) (12 + 4 * j) (be q 2 ++ be r 2) = part H (s.take (j + 1)) := by
              have h := part_some (h := H) (b := b) (s := s.take j) HH.out.2 (by rw [HQ.out.2.2.2.1]; have := HQ.out.2.1; have := HQ.out.1; have := HB.out.2.1; have := HB.out.1; have := HQ.out.2.2.2.2.1; have := HQ.out.2.2.2.2.2; omega)
              rw [HQ.out.2.2.2.1, ← HQ.out.1, ← HQ.out.2.1] at h
              rw [h, take_snoc HQ.out.2.2.1]
            rw [hps] at C2
            obtain ⟨d0, d1, d2, -⟩ := HX.out w4 HF4.out
            obtain ⟨y0, y1⟩ := HS.out w4 HF4.out
            clear c0 c1 c2 x0 x1 C1 h4 f4 hl4 hps HFk
            go_wp2_with fail
            refine C2.mono ?_
            rintro e' w5 ⟨rfl, h5, f5⟩
            have HP5 := Lib.hid h5
            have HF5 := Lib.hid (HF4.out.trans f5 (fun _ _ q => q))
            have HE5 : Hid (q = 512 - tot (s.take (j + 1))) := Lib.hid (by have := HQ.out; omega)
            clear d0 d1 d2 y0 y1 C2 h5 f5 HF4
            go_wp2_with fail
            exact ⟨⟨j + 1, q, by go_num, by go_num, by omega, HE5, HP5, HF5⟩, by simp [intOf]; omega⟩
    · obtain rfl : m = j := by omega
      have hst : s.take m = s := List.take_of_length_le (by have := HB.out.1; omega)
      have hP := HP.out
      rw [hst] at hP htl
      have hpl : (part H s).length = 512 := part_len HH.out.2 HB.out.2.1
      have he9 : e ≤ 512 := by have := HE.out; omega
      have C1 := set_calls (p := 4) (n := e) (z := 4) (y := (e : Int)) hP hpl rfl rfl (by omega) (by omega)
      have hend : patch (part H s) 4 (be e 2) = L := by
        rw [HH.out.1, head0_end, HL.out]
        unfold PD.bytes
        simp only
        rw [HE.out, hst, HB.out.1]
      rw [hend] at C1
      clear hP hst htl hpl hend
      go_wp2_with fail
      refine C1.mono ?_
      rintro e' w4 ⟨rfl, h4, f4⟩
      have HF4 := Lib.hid (HF.out.trans f4 (fun _ _ q => q))
      obtain ⟨-, -, -, -, hb2, hfw⟩ := HX.out w4 HF4.out
      have hll : L.length = 512 := by rw [HL.out]; exact HB.out.2.2.1.len
      have hrg : Hid (w4.rangeAt (w.heap.size + 2) 0 (cellsB L)) := Lib.hid (page_range h4 hll)
      have hbo := hb2.over (o := 0) (m := L) (by rw [nought_len]; omega)
      rw [patch_all (by rw [nought_len]; omega)] at hbo
      have HG := Lib.hid hb2
      have HLL := Lib.hid hll
      have HE4 := Lib.hid (And.intro hbo (Fr.setCells (F := fun _ => False) (b := w.heap.size + 1) (vs := cellsB L) (o := 0) (.inr (by omega)) hfw))
      clear c0 c1 c2 C1 h4 f4 hb2 hfw hbo HP HF HE hll
      go_wp2_with (first
        | (refine wpList_load_mid rfl 26 _ rfl (w.heap.size + 2) 0 rfl (cellsB L) _ hrg.out Try.underlying26 rfl (by rw [infoPage, cellsB_len, HLL.out]) ?_)
        | (refine wpList_store_mid rfl 26 _ _ rfl (w.heap.size + 1) 0 (cellsB L).toArray rfl rfl (HG.out.there (by simp [cellsB_len, nought_len, HLL.out])) (by rw [infoPage]; simp [cellsB_len, HLL.out]) (all_oneCell_toArray (cellsB_one _)) ?_))
      refine bodyPost_ret (results_cell_row rfl _ _ (w.heap.size + 1) 26 (cellsB L).toArray (0, 0) _ rfl HE4.out.1 Try.underlying26 rfl (by rw [infoPage]; simp [cellsB_len, HLL.out])) rfl ⟨rfl, HE4.out.2⟩
end
end Go.Proofs.Ytijdbngjnhhheaa
