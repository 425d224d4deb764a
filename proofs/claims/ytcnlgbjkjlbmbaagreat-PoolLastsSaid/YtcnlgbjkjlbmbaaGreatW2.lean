/- W2: laid together out of Spl Tog Tgo. -/
import Derived.Shelf.Abstract
import Derived.Test.YtcnlgbjkjlbmbaaGreatW1
namespace Go.Proofs.YtcnlgbjkjlbmbaaGreat
open Go.RowKit
attribute [local go_sem] Oper.semAt_some

def laid {N : Nat} (c n m : Nat) (z : List UInt8) : List (Pl N 48) → List UInt8
 | [] => z
 | x :: r => laid c n m (patch z (64 * x.1.1) (tagB ⟨c, n, x.1.1, m⟩ x.1.2)) r
set_option maxRecDepth 100000 in
theorem laid_snoc {N : Nat} (c n m : Nat) (pre : List (Pl N 48)) : ∀ (z : List UInt8) (x : Pl N 48), laid c n m z (pre ++ [x]) = patch (laid c n m z pre) (64 * x.1.1) (tagB ⟨c, n, x.1.1, m⟩ x.1.2) := by
 induction pre with
 | nil => intro z x; rfl
 | cons y r ih => intro z x; exact ih _ x
set_option maxRecDepth 100000 in
theorem laid_len {N : Nat} (c n m : Nat) {L : Nat} (hL : 64 * N ≤ L) (pre : List (Pl N 48)) : ∀ (z : List UInt8), z.length = L → (laid c n m z pre).length = L := by
 induction pre with
 | nil => intro z h; exact h
 | cons y r ih =>
   intro z h
   refine ih _ ?_
   have h1 := y.2.1
   rw [patch_len, h]
   rw [tagB_len _ y.2.2, h]
   omega

def fpOf (all : List UInt8) (m : Nat) (hl : all.length = m * 48) (hm : 0 < m) (k : Nat) : Pl m 48 :=
 if h : k < m then ⟨(k, (all.drop (48 * k)).take 48), h, by rw [List.length_take, List.length_drop]; omega⟩ else ⟨(0, nought 48), hm, by simp [nought]⟩
set_option maxRecDepth 100000 in
theorem fpOf_at {all : List UInt8} {m : Nat} (hl : all.length = m * 48) (hm : 0 < m) {k : Nat} (h : k < m) : (fpOf all m hl hm k).1.1 = k ∧ (fpOf all m hl hm k).1.2 = (all.drop (48 * k)).take 48 := by
 unfold fpOf
 rw [dif_pos h]
 exact ⟨rfl, rfl⟩
set_option maxRecDepth 100000 in
theorem many_pos (k : Nat) : 0 < many k := by unfold many; omega
def rowB (c n : Nat) (b : List UInt8) : List UInt8 := laid c n (many b.length) (nought ((many b.length + 1) / 2 * 128)) (upto (fpOf (padB b) (many b.length) (padB_len b) (many_pos _)) (many b.length))
set_option maxRecDepth 100000 in
theorem rowB_is {c n m N : Nat} {b : List UInt8} (hpl : (padB b).length = m * 48) (hm0 : 0 < m) (hm : m = many b.length) (hN : N = (m + 1) / 2) : laid c n m (nought (N * 128)) (upto (fpOf (padB b) m hpl hm0) m) = rowB c n b := by
 subst hm hN
 rfl
set_option maxRecDepth 100000 in
theorem pieces_stops (F : Nat → Prop) (Bs b N cap : Nat) (t : TypeId) (all : List UInt8) (hN : all.length = N * 48) (hN0 : 0 < N) (hreach : N ≤ 1099511627776) (hb : ¬ F b) (hBn : ¬ F Bs) (w : World)
 (hBs : Blk w Bs 46 #[.slice (some ⟨b, 0, none⟩) (N * 48) cap]) (hcap : N * 48 ≤ cap) (hblk : Blk w b t (cellsB all).toArray) :
 SeqStopsK Fence.wide 9 Tryz.prog 144 #[.pointer (some ⟨Bs, 0, none⟩)] (encPl (N := N) (sz := 48)) (Fr F) (fun ys => ys = upto (fpOf all N hN hN0) N) (fun pre => ∃ k, k ≤ N ∧ pre = upto (fpOf all N hN hN0) k) N w := fun l J Jx W hW _ _ hY h0 => by
 have hf : Fr (fun _ => False) w W := Fr.of_below hW
 have hc := (hBs.keep hf (fun q => q)).cell 0
 exact pieces1_in F l Bs b N cap t all hN hreach hb (fpOf all N hN hN0) (fun k hk => fpOf_at hN hN0 hk) J Jx hY W hBn (by simpa using hc) hcap (hblk.keep hf (fun q => q)) h0

set_option maxRecDepth 100000 in
set_option maxHeartbeats 4000000 in
theorem split_ok {w : World} {A : Option Addr} {k cb : Nat} {b : List UInt8} (hr : Rd w A k b) (hk : k ≤ 32768) (c n : Nat) (h : mayT c (n : Int) = true) :
 Calls Tryz.prog 113 #[.agg #[.int .u64 c, .int .i64 n], .slice A k cb] w fun e w' => ∃ R, e = .returned (.tuple #[.slice (some ⟨R, 0, none⟩) (needN k) (needN k), .int .i64 0]) ∧ w.heap.size ≤ R ∧ Blk w' R 83 (cellsB (rowB c n b)).toArray ∧ Fr (fun _ => False) w w' := by
 have hm : 1 ≤ many k ∧ many k ≤ 683 := by unfold many; omega
 have hN : needN (k : Int) = (many k + 1) / 2 := by simp [needN]; omega
 have hND := fun w => need_any w (k : Int)
 rw [hN]
 simp only [hN] at hND
 have HM := Lib.hid fun w => halvesFor_any w k (by omega)
 have HP := Lib.hid fun (W : World) (hr : Rd W A k b) => pieces_any (w := W) (c := cb) hr hk
 clear hN
 have hsd : ∃ m N, m = many k ∧ N = (many k + 1) / 2 := ⟨_, _, rfl, rfl⟩
 obtain ⟨m, N, hmk, hNm⟩ := hsd
 rw [← hNm]
 simp only [← hNm] at hND
 simp only [← hmk] at HM HP
 rw [← hmk] at hm
 have HN := Lib.hid hND
 have HMN : Hid (m = many k ∧ N = (m + 1) / 2) := Lib.hid ⟨hmk, by rw [hmk]; exact hNm⟩
 have hN1 : 1 ≤ N ∧ N ≤ 342 ∧ m ≤ 2 * N := by rw [hmk] at hm; omega
 clear hND hmk hNm
 refine callsIn_wide (n := 10).1 ?_
 refine callsIn_of_wp_marks Tryz.func113 rfl trivial ?_ rfl
 simp only [Tryz.ntmps113, List.size_toArray, List.length_cons, List.length_nil, Nat.reduceAdd, Nat.reduceSub, Array.replicate_succ, Array.replicate_zero, List.push_toArray, List.append_toArray, List.nil_append, List.cons_append]
 gi_wp2
 refine ⟨trivial, (callsIn_wide.2 (may_any _ c n)).mono ?_⟩
 rintro e w1 ⟨rfl, hf⟩
 rw [h]
 have k0 : Blk w1 w.heap.size 148 #[.int .u64 (c : Nat), .int .i64 (n : Nat)] := ((Blk.new w _ _).keep (F := fun _ => False) ((Fr.refl _ _).alloc (.cells #[.slice A k cb] 46)) (fun q => q)).keep hf (fun q => q)
 have k1 : Blk w1 (w.heap.size + 1) 46 #[.slice A k cb] := by
  have h1 := ((Blk.new (w.alloc (.cells #[.int .u64 (c : Nat), .int .i64 (n : Nat)] 148)) 46 #[.slice A k cb]).keep hf (fun q => q))
  simpa using h1
 have hf1 : Fr (fun _ => False) w w1 := (((Fr.refl (fun _ => False) w).alloc _).alloc _).trans hf (fun _ _ q => q)
 have H1 := Lib.hid (And.intro k0 (And.intro k1 hf1))
 have c0 := k1.cell 0
 simp at c0
 have hmks := make_sectors w1 N (by omega)
 have hk2 : ¬ ((32768 : Int) < (k : Int)) := by omega
 clear hf k0 k1 hf1
 gi_wp2
 refine ⟨trivial, (callsIn_wide.2 (HN.out _)).mono ?_⟩
 rintro e w2 ⟨rfl, rfl⟩
 have c2 : ∀ X Y, ((w1.alloc X).alloc Y).cell? ⟨w.heap.size + 1, 0, none⟩ = some (.slice A k cb) := fun X Y => by
  rw [World.cell?_alloc_lt _ _ _ (by have := H1.out.2.1.lt; simp; omega), World.cell?_alloc_lt _ _ _ H1.out.2.1.lt]
  exact c0
 have hW : ∃ W, W = (w1.alloc (.cells (cellsB (nought (N * 128))).toArray 83)).alloc (.cells #[.slice (some ⟨w1.heap.size, 0, none⟩) N N] 71) ∧ Blk W w.heap.size 148 #[.int .u64 (c : Nat), .int .i64 (n : Nat)] ∧ Blk W (w.heap.size + 1) 46 #[.slice A k cb] ∧
  Blk W w1.heap.size 83 (cellsB (nought (N * 128))).toArray ∧ Blk W (w1.heap.size + 1) 71 #[.slice (some ⟨w1.heap.size, 0, none⟩) N N] ∧ W.heap.size = w1.heap.size + 2 ∧ Fr (fun _ => False) w W := by
  have f2 : Fr (fun _ => False) w1 ((w1.alloc (.cells (cellsB (nought (N * 128))).toArray 83)).alloc (.cells #[.slice (some ⟨w1.heap.size, 0, none⟩) N N] 71)) := ((Fr.refl _ w1).alloc _).alloc _
  refine ⟨_, rfl, H1.out.1.keep f2 (fun q => q), H1.out.2.1.keep f2 (fun q => q), (Blk.new w1 _ _).keep (F := fun _ => False) ((Fr.refl _ _).alloc _) (fun q => q), ?_, by simp, H1.out.2.2.trans f2 (fun _ _ q => q)⟩
  have h1 := Blk.new (w1.alloc (.cells (cellsB (nought (N * 128))).toArray 83)) 71 #[.slice (some ⟨w1.heap.size, 0, none⟩) N N]
  simpa using h1
 obtain ⟨W, hW, b0, b1, b2, b3, hsz, hfw⟩ := hW
 have H2 := Lib.hid (And.intro b0 (And.intro b1 (And.intro b2 (And.intro b3 (And.intro hsz hfw)))))
 have HWW := Lib.hid hW
 clear b0 b1 b2 b3 hsz hfw hW
 gi_wp2
 rw [← HWW.out]
 clear c0 c2 hmks HWW
 refine ⟨trivial, (callsIn_wide.2 (HP.out W (hr.keep H2.out.2.2.2.2.2 (fun _ _ q => q)))).mono ?_⟩
 rintro e w3 ⟨Bs, Rp, cap, rfl, p1, p2, p3, p4, p5, p6⟩
 have hR1 : w.heap.size + 2 ≤ w1.heap.size := by have := H1.out.2.2.size; have := H1.out.2.1.lt; omega
 have b0 := H2.out.1.keep p6 (fun q => q)
 have b1 := H2.out.2.1.keep p6 (fun q => q)
 have b2 := H2.out.2.2.1.keep p6 (fun q => q)
 have b3 := H2.out.2.2.2.1.keep p6 (fun q => q)
 have hf3 := H2.out.2.2.2.2.2.trans p6 (fun _ _ q => q)
 have hsz3 := H2.out.2.2.2.2.1
 rw [hsz3] at p4 p5
 have HB := Lib.hid (And.intro b0 (And.intro b1 (And.intro b2 (And.intro b3 hf3))))
 have HPI := Lib.hid (And.intro p1 (And.intro p2 p3))
 have hsz4 : w1.heap.size + 2 ≤ w3.heap.size := by have := p6.size; omega
 clear b0 b1 b2 b3 hf3 p1 p2 p3 p6 HP H2 H1 hsz3 HN
 generalize w1.heap.size = R at *
 clear W
 have hpl : (padB b).length = m * 48 := by rw [padB_len, HMN.out.1, hr.len]
 have hm0 : 0 < m := by omega
 gi_wp2
 have hsq := pieces_stops (fun j => j = R ∨ w3.heap.size ≤ j) Bs Rp m cap 5 (padB b) hpl hm0 (by omega) (by have := HPI.out.2.2.lt; omega) (by have := HPI.out.1.lt; omega) w3 HPI.out.1 HPI.out.2.1 HPI.out.2.2
 refine wpIn_rangeFunc_ownH rfl (by omega) (gf := 144) (lb := #[.pointer (some ⟨Bs, 0, none⟩)]) rfl trivial (enters_of Tryz.func144 (by kernel_rfl) rfl) hsq (fun h k => h.trans k (fun _ _ q => q)) (fun W l o o' hl ho _ _ => frB (fun _ => Or.inr) W l o o' hl ho) (Below.refl _ _) (fun _ => rfl)
  (fun pre W => Blk W w.heap.size 148 #[.int .u64 (c : Nat), .int .i64 (n : Nat)] ∧ Blk W (w.heap.size + 1) 46 #[.slice A k cb] ∧ Blk W R 83 (cellsB (laid c n m (nought (N * 128)) pre)).toArray ∧
    Blk W (R + 1) 71 #[.slice (some ⟨R, 0, none⟩) N N] ∧ Fr (fun _ => False) w W)
  (fun _ _ _ => False)
  (fun s X Y row hs hg hr' => ⟨blk_own hs.1 hg hr', blk_own hs.2.1 hg hr', blk_own hs.2.2.1 hg hr', blk_own hs.2.2.2.1 hg hr', fr_own hs.2.2.2.2 (by omega) hg hr'⟩)
  (fun _ _ _ _ _ hs _ _ => hs)
  HB.out
  (fun x a' W => ∃ Bx, R + 1 < Bx ∧ Blk W Bx 175 (cellsB x.1.2).toArray ∧ a' = { tmps := #[.agg #[.int .u64 (c : Nat), .int .i64 (n : Nat)], .slice A k cb, .pointer (some ⟨w.heap.size, 0, none⟩), .pointer (some ⟨w.heap.size + 1, 0, none⟩), .slice none 0 0, .int .i64 0, .pointer (some ⟨R + 1, 0, none⟩), .int .i64 (x.1.1 : Nat), .pointer (some ⟨Bx, 0, none⟩), undef, .bool false, .agg #[.int .u64 (c : Nat), .int .i64 (n : Nat)], .bool true, .bool false, .bool (decide ((32768 : Int) < (k : Int))), .slice A k cb, .int .i64 (k : Nat), .bool (decide ((32768 : Int) < (k : Int))), .slice A k cb, .int .i64 (k : Nat), .int .i64 (N : Nat), .slice (some ⟨R, 0, none⟩) N N, .slice A k cb, .func (.func 144) #[] #[.pointer (some ⟨Bs, 0, none⟩)], .int .i64 (x.1.1 : Nat), av x.1.2, undef, undef, undef, undef, undef, undef, undef, undef, undef, undef, undef, undef, undef, undef, undef, undef, undef, undef, undef], defers := [] })
  (fun x a' _ X Y row hs hg hr' => by obtain ⟨Bx, h1, h2, h3⟩ := hs; exact ⟨Bx, h1, blk_own h2 hg hr', h3⟩)
  ?assign ?body ?done ?stop
 case assign =>
  rintro l pre x W K ⟨i0, i1, i2, i3, i4⟩ hK
  have HI := Lib.hid (And.intro i0 (And.intro i1 (And.intro i2 (And.intro i3 i4))))
  have HXL := Lib.hid x.2.2
  have nb := Blk.new W 175 (cellsB (nought 48)).toArray
  have HNB := Lib.hid nb
  clear i0 i1 i2 i3 i4 nb hsq
  dsimp only [encPl]
  gi_wp2_with (first
   | (refine wpListIn_zero rfl 175 rfl zeroPiece ?_)
   | (refine wpListIn_store_mid rfl 175 _ _ rfl W.heap.size 0 (cellsB x.1.2).toArray rfl rfl (HNB.out.there (by simp [cellsB_len, nought_len, HXL.out])) (by rw [infoPiece]; simp [cellsB_len, HXL.out]) (all_oneCell_toArray (cellsB_one _)) ?_))
  have hfa : Fr (fun _ => False) W ((W.alloc (.cells (cellsB (nought 48)).toArray 175)).setCells W.heap.size 0 (cellsB x.1.2)) := Fr.setCells (.inr (Nat.le_refl _)) ((Fr.refl _ W).alloc _)
  have hbx := HNB.out.over (o := 0) (m := x.1.2) (by rw [nought_len, HXL.out]; omega)
  rw [patch_all (by rw [nought_len, HXL.out])] at hbx
  exact hK _ _ (((KeepsOthers.alloc W _).trans (KeepsOthers.setCells _ _ _ _)).from _) (hfa.mono (fun _ _ q => q.elim))
   ⟨HI.out.1.keep hfa (fun q => q), HI.out.2.1.keep hfa (fun q => q), HI.out.2.2.1.keep hfa (fun q => q), HI.out.2.2.2.1.keep hfa (fun q => q), HI.out.2.2.2.2.trans hfa (fun _ _ q => q)⟩
   ⟨W.heap.size, HI.out.2.2.2.1.lt, hbx, rfl⟩
 case body =>
  rintro l pre x a' W hl ⟨r, hr'⟩ ⟨i0, i1, i2, i3, i4⟩ ⟨Bx, hBx, bx, rfl⟩ hlt
  clear hr' r hl hsq
  obtain ⟨⟨q, p⟩, hq, hp⟩ := x
  simp only at hq hp bx ⊢
  have HI := Lib.hid (And.intro i0 (And.intro i1 (And.intro i2 (And.intro i3 (And.intro i4 bx)))))
  clear i0 i1 i2 i3 i4 bx
  have HT := Lib.hid fun w => tagged_any w ⟨c, n, q, m⟩ p hp (by have h1 := h; unfold mayT at h1; simp at h1; show c ≤ _; omega) (by have h1 := h; unfold mayT at h1; simp at h1; show n ≤ _; omega) (by show q ≤ _; omega) (by show m ≤ _; omega)
  generalize hz : tagB ⟨c, n, q, m⟩ p = z at *
  have HZ := Lib.hid hz
  have hzl : z.length = 64 := by rw [← hz]; exact tagB_len _ hp
  clear hz
  gi_wp2
  rename_i K0 hK0
  have hK10 : ∀ (B : Nat) (w' : World), Fr (fun _ => False) W w' → W.heap.size ≤ B → Blk w' B 177 (cellsB z).toArray → K0 { tmps := #[.agg #[.int .u64 (c : Nat), .int .i64 (n : Nat)], .slice A k cb, .pointer (some ⟨w.heap.size, 0, none⟩), .pointer (some ⟨w.heap.size + 1, 0, none⟩), .slice none 0 0, .int .i64 0, .pointer (some ⟨R + 1, 0, none⟩), .int .i64 (q : Nat), .pointer (some ⟨Bx, 0, none⟩), .pointer (some ⟨B, 0, none⟩), .bool false, .agg #[.int .u64 (c : Nat), .int .i64 (n : Nat)], .bool true, .bool false, .bool (decide ((32768 : Int) < (k : Int))), .slice A k cb, .int .i64 (k : Nat), .bool (decide ((32768 : Int) < (k : Int))), .slice A k cb, .int .i64 (k : Nat), .int .i64 (N : Nat), .slice (some ⟨R, 0, none⟩) N N, .slice A k cb, .func (.func 144) #[] #[.pointer (some ⟨Bs, 0, none⟩)], .int .i64 (q : Nat), av p, .agg #[.int .u64 (c : Nat), .int .i64 (n : Nat)], .int .i64 (q : Nat), .slice A k cb, .int .i64 (k : Nat), .int .i64 (m : Nat), .agg #[.int .u64 (c : Nat), .int .i64 (n : Nat), .int .i64 (q : Nat), .int .i64 (m : Nat)], av p, av z, undef, undef, undef, undef, undef, undef, undef, undef, undef, undef, undef], defers := [] } w' := by
   intro B w' hfw hB hbz
   refine hK0 _ _ ?_
   have hq2' : q = 2 * (q / 2) ∨ q = 2 * (q / 2) + 1 := by omega
   obtain ⟨i, hi⟩ : ∃ i, i = q / 2 := ⟨_, rfl⟩
   rw [← hi] at hq2'
   have hq2 : (q : Int) / 2 = (i : Int) := by omega
   have hi0 : (0 : Int) ≤ (i : Int) := by omega
   have hi1 : (i : Int) < (N : Int) := by omega
   have hbR : Blk w' R 83 (cellsB (laid c n m (nought (N * 128)) pre)).toArray := HI.out.2.2.1.keep hfw (fun q => q)
   have hLl : (laid c n m (nought (N * 128)) pre).length = N * 128 := laid_len c n m (by omega) pre _ (nought_len _)
   have hS0 : Blk w'.drew (R + 1) 71 #[.slice (some ⟨R, 0, none⟩) N N] := HI.out.2.2.2.1.keep (hfw.drew) (fun q => q)
   have hfR : Fr (fun j => j = R) W (w'.drew.setCells R (64 * q) (cellsB z)) := Fr.setCells (F := fun j => j = R) (.inl rfl) ((hfw.mono (fun _ _ q => q.elim)).drew)
   have hover := Blk.over (w := w'.drew) (o := 64 * q) (m := z) hbR (by rw [hLl, hzl]; omega)
   have hLP : laid c n m (nought (N * 128)) (pre ++ [⟨(q, p), hq, hp⟩]) = patch (laid c n m (nought (N * 128)) pre) (64 * q) z := by rw [laid_snoc, ← HZ.out]
   have hRlt := HI.out.2.2.1.lt
   have hfin : Blk (w'.drew.setCells R (64 * q) (cellsB z)) (R + 1) 71 #[.slice (some ⟨R, 0, none⟩) N N] ∧ Fr (fun j => j = R ∨ w3.heap.size ≤ j) W (w'.drew.setCells R (64 * q) (cellsB z)) ∧
    (Blk (w'.drew.setCells R (64 * q) (cellsB z)) w.heap.size 148 #[.int .u64 (c : Nat), .int .i64 (n : Nat)] ∧ Blk (w'.drew.setCells R (64 * q) (cellsB z)) (w.heap.size + 1) 46 #[.slice A k cb] ∧ Blk (w'.drew.setCells R (64 * q) (cellsB z)) R 83 (cellsB (laid c n m (nought (N * 128)) (pre ++ [⟨(q, p), hq, hp⟩]))).toArray ∧
      Blk (w'.drew.setCells R (64 * q) (cellsB z)) (R + 1) 71 #[.slice (some ⟨R, 0, none⟩) N N] ∧ Fr (fun _ => False) w (w'.drew.setCells R (64 * q) (cellsB z))) := by
    rw [hLP]
    refine ⟨HI.out.2.2.2.1.keep hfR (by omega), hfR.mono (fun _ _ q => .inl q), HI.out.1.keep hfR (by omega), HI.out.2.1.keep hfR (by omega), hover, HI.out.2.2.2.1.keep hfR (by omega), ?_⟩
    exact HI.out.2.2.2.2.1.trans hfR (fun j hj q => by omega)
   refine wpIn_round_held (S := fun w'' => Blk w'' (R + 1) 71 #[.slice (some ⟨R, 0, none⟩) N N]) (by kernel_rfl) ?lo2 (by kernel_rfl) ?_
   case lo2 =>
    rintro ⟨a, w, hq⟩
    exact hq
   have HFIN := Lib.hid hfin
   have HBR := Lib.hid (And.intro hbR (And.intro hLl hbz))
   clear hfin hbR hLl hLP hover hfR hRlt hi
   rcases hq2' with hq3 | hq3
   · have hrm : (q : Int) % 2 = 0 := by omega
     have htm : (q : Int).tmod 2 = 0 := by rw [Int.tmod_eq_emod_of_nonneg (by omega)]; exact hrm
     have hw0 : IntKind.i64.wrap 0 = 0 := by decide
     have hwi : IntKind.i64.wrap (i : Int) = (i : Int) := by simp [IntKind.wrap, IntKind.signed, IntKind.bits]; omega
     have HOFF : Hid (i * 128 = 64 * q) := Lib.hid (by omega)
     clear hq3
     have hcp : ∀ ty, (Builtin.copy_ #[46, 46] ty #[.slice (some ⟨R, i * 128, none⟩) 128 128, .slice (some ⟨B, 0, none⟩) 64 64]).run Tryz.prog w'.drew = .ok (goInt 64) (w'.drew.setCells R (i * 128) (cellsB z)) := fun ty => by
      have h := run_copy_cells (P := Tryz.prog) w'.drew 46 46 ty 5 R (i * 128) 128 128 ⟨B, 0, none⟩ 64 64 (cellsB z) Tryz.underlying46 (by kernel_rfl) (by rw [cellsB_len, hzl]; rfl)
       (fun j v hv => by rw [Addr.add_mid]; exact (HBR.out.2.2.range 0 64) j v (by rw [List.drop_zero, List.take_of_length_le (Nat.le_of_eq hzl)]; exact hv)) (fun j hj => ((HBR.out.1.there (o := i * 128) (n := 64) (by simp [cellsB_len, HBR.out.2.1]; omega)) j (by rw [cellsB_len, hzl] at hj; exact hj)).1) (fun j hj => ((HBR.out.1.there (o := i * 128) (n := 64) (by simp [cellsB_len, HBR.out.2.1]; omega)) j (by rw [cellsB_len, hzl] at hj; exact hj)).2) (cellsB_one _)
      rw [cellsB_len, hzl] at h
      exact h
     refine anyH_tk 0 34 (.slice (some ⟨R, 0, none⟩) N N) rfl rfl (.inl ⟨by rfl, fun w'' hS => by
      have e0 := Blk.cell hS 0
      simp at e0
      go_simp⟩) hS0 ?_
     (simp only [sA, sB, sC])
     refine anyH_tk 1 35 (.int .i64 (q : Nat)) rfl rfl (.inl ⟨by rfl, fun w'' hS => by
      go_simp⟩) hS0 ?_
     (simp only [sA, sB, sC])
     refine anyH_tk 2 36 (.int .i64 (i : Nat)) rfl rfl (.inl ⟨by rfl, fun w'' hS => by
      go_simp⟩) hS0 ?_
     (simp only [sA, sB, sC])
     refine anyH_tk 3 37 (.pointer (some ⟨R, i * 128, none⟩)) rfl rfl (.inl ⟨by rfl, fun w'' hS => by
      go_simp⟩) hS0 ?_
     (simp only [sA, sB, sC])
     refine anyH_tk 4 38 (.int .i64 (q : Nat)) rfl rfl (.inl ⟨by rfl, fun w'' hS => by
      go_simp⟩) hS0 ?_
     (simp only [sA, sB, sC])
     refine anyH_tk 5 39 (.int .i64 0) rfl rfl (.inl ⟨by rfl, fun w'' hS => by
      go_simp⟩) hS0 ?_
     (simp only [sA, sB, sC])
     refine anyH_tk 6 40 (.int .i64 0) rfl rfl (.inl ⟨by rfl, fun w'' hS => by
      go_simp⟩) hS0 ?_
     (simp only [sA, sB, sC])
     refine anyH_tk 7 41 (.slice (some ⟨R, i * 128, none⟩) 128 128) rfl rfl (.inl ⟨by rfl, fun w'' hS => by
      go_simp⟩) hS0 ?_
     (simp only [sA, sB, sC])
     refine anyH_tk 8 42 (.slice (some ⟨B, 0, none⟩) 64 64) rfl rfl (.inl ⟨by rfl, fun w'' hS => by
      go_simp⟩) hS0 ?_
     (simp only [sA, sB, sC])
     refine wpAnyH_all (rs := [9]) (by kernel_rfl) (by simp) ?_
     intro j hj
     obtain rfl := List.mem_singleton.1 hj
     refine wpOp_value 43 (.int .i64 64) (w' := w'.drew.setCells R (i * 128) (cellsB z)) rfl rfl (by rfl) (by go_simp) ?_
     rw [HOFF.out]
     exact ⟨HFIN.out.1, wpAnyH_done (by kernel_rfl) ⟨(((Fr.others hfw).trans (KeepsOthers.drew _)).trans (KeepsOthers.setCells _ _ _ _)).from _, HFIN.out.2.1, HFIN.out.2.2⟩ _⟩
   · have hrm : (q : Int) % 2 = 1 := by omega
     have htm : (q : Int).tmod 2 = 1 := by rw [Int.tmod_eq_emod_of_nonneg (by omega)]; exact hrm
     have hw0 : IntKind.i64.wrap 64 = 64 := by decide
     have hwi : IntKind.i64.wrap (i : Int) = (i : Int) := by simp [IntKind.wrap, IntKind.signed, IntKind.bits]; omega
     have HOFF : Hid (i * 128 + 64 = 64 * q) := Lib.hid (by omega)
     clear hq3
     have hcp : ∀ ty, (Builtin.copy_ #[46, 46] ty #[.slice (some ⟨R, i * 128 + 64, none⟩) 64 64, .slice (some ⟨B, 0, none⟩) 64 64]).run Tryz.prog w'.drew = .ok (goInt 64) (w'.drew.setCells R (i * 128 + 64) (cellsB z)) := fun ty => by
      have h := run_copy_cells (P := Tryz.prog) w'.drew 46 46 ty 5 R (i * 128 + 64) 64 64 ⟨B, 0, none⟩ 64 64 (cellsB z) Tryz.underlying46 (by kernel_rfl) (by rw [cellsB_len, hzl]; rfl)
       (fun j v hv => by rw [Addr.add_mid]; exact (HBR.out.2.2.range 0 64) j v (by rw [List.drop_zero, List.take_of_length_le (Nat.le_of_eq hzl)]; exact hv)) (fun j hj => ((HBR.out.1.there (o := i * 128 + 64) (n := 64) (by simp [cellsB_len, HBR.out.2.1]; omega)) j (by rw [cellsB_len, hzl] at hj; exact hj)).1) (fun j hj => ((HBR.out.1.there (o := i * 128 + 64) (n := 64) (by simp [cellsB_len, HBR.out.2.1]; omega)) j (by rw [cellsB_len, hzl] at hj; exact hj)).2) (cellsB_one _)
      rw [cellsB_len, hzl] at h
      exact h
     refine anyH_tk 0 34 (.slice (some ⟨R, 0, none⟩) N N) rfl rfl (.inl ⟨by rfl, fun w'' hS => by
      have e0 := Blk.cell hS 0
      simp at e0
      go_simp⟩) hS0 ?_
     (simp only [sA, sB, sC])
     refine anyH_tk 1 35 (.int .i64 (q : Nat)) rfl rfl (.inl ⟨by rfl, fun w'' hS => by
      go_simp⟩) hS0 ?_
     (simp only [sA, sB, sC])
     refine anyH_tk 2 36 (.int .i64 (i : Nat)) rfl rfl (.inl ⟨by rfl, fun w'' hS => by
      go_simp⟩) hS0 ?_
     (simp only [sA, sB, sC])
     refine anyH_tk 3 37 (.pointer (some ⟨R, i * 128, none⟩)) rfl rfl (.inl ⟨by rfl, fun w'' hS => by
      go_simp⟩) hS0 ?_
     (simp only [sA, sB, sC])
     refine anyH_tk 4 38 (.int .i64 (q : Nat)) rfl rfl (.inl ⟨by rfl, fun w'' hS => by
      go_simp⟩) hS0 ?_
     (simp only [sA, sB, sC])
     refine anyH_tk 5 39 (.int .i64 1) rfl rfl (.inl ⟨by rfl, fun w'' hS => by
      go_simp⟩) hS0 ?_
     (simp only [sA, sB, sC])
     refine anyH_tk 6 40 (.int .i64 64) rfl rfl (.inl ⟨by rfl, fun w'' hS => by
      go_simp⟩) hS0 ?_
     (simp only [sA, sB, sC])
     refine anyH_tk 7 41 (.slice (some ⟨R, i * 128 + 64, none⟩) 64 64) rfl rfl (.inl ⟨by rfl, fun w'' hS => by
      go_simp⟩) hS0 ?_
     (simp only [sA, sB, sC])
     refine anyH_tk 8 42 (.slice (some ⟨B, 0, none⟩) 64 64) rfl rfl (.inl ⟨by rfl, fun w'' hS => by
      go_simp⟩) hS0 ?_
     (simp only [sA, sB, sC])
     refine wpAnyH_all (rs := [9]) (by kernel_rfl) (by simp) ?_
     intro j hj
     obtain rfl := List.mem_singleton.1 hj
     refine wpOp_value 43 (.int .i64 64) (w' := w'.drew.setCells R (i * 128 + 64) (cellsB z)) rfl rfl (by rfl) (by go_simp) ?_
     rw [HOFF.out]
     exact ⟨HFIN.out.1, wpAnyH_done (by kernel_rfl) ⟨(((Fr.others hfw).trans (KeepsOthers.drew _)).trans (KeepsOthers.setCells _ _ _ _)).from _, HFIN.out.2.1, HFIN.out.2.2⟩ _⟩
  have hS0 : Fr (fun _ => False) W W.drew := (Fr.refl _ W).drew
  refine wpIn_round_held (S := fun w' => Fr (fun _ => False) W w') (by kernel_rfl) ?lo (by kernel_rfl) ?_
  case lo =>
   rintro ⟨a, w, hq⟩
   exact hq
  refine anyH_tk 0 26 (.agg #[.int .u64 (c : Nat), .int .i64 (n : Nat)]) rfl rfl (.inl ⟨by rfl, ?v0⟩) hS0 ?_
  case v0 =>
   intro w' hS
   have e0 := (HI.out.1.keep hS (fun q => q)).cell 0
   have e1 := (HI.out.1.keep hS (fun q => q)).cell 1
   simp at e0 e1
   go_simp
  (simp only [sA, sB, sC])
  refine anyH_tk 1 27 (.int .i64 (q : Nat)) rfl rfl (.inl ⟨by rfl, ?v1⟩) hS0 ?_
  case v1 =>
   intro w' hS
   go_simp
  (simp only [sA, sB, sC])
  refine anyH_tk 2 28 (.slice A k cb) rfl rfl (.inl ⟨by rfl, ?v2⟩) hS0 ?_
  case v2 =>
   intro w' hS
   have e0 := (HI.out.2.1.keep hS (fun q => q)).cell 0
   simp at e0
   go_simp
  (simp only [sA, sB, sC])
  refine anyH_tk 3 29 (.int .i64 (k : Nat)) rfl rfl (.inl ⟨by rfl, ?v3⟩) hS0 ?_
  case v3 =>
   intro w' hS
   go_simp
  (simp only [sA, sB, sC])
  refine anyH_tk 6 32 (av p) rfl rfl (yieldsIf_load_mid (by rfl) 175 _ rfl Bx 0 rfl (cellsB p) _ (fun w' hS => by
   have := (HI.out.2.2.2.2.2.keep hS (fun q => q)).range 0 48
   rw [List.drop_zero, List.take_of_length_le (Nat.le_of_eq hp)] at this
   exact this) Tryz.underlying175 rfl (by rw [infoPiece, cellsB_len, hp])) hS0 ?_
  (simp only [sA, sB, sC])
  refine wpAnyH_all (rs := [4, 8]) (by kernel_rfl) (by simp) ?_
  intro i hi
  rcases List.mem_cons.1 hi with rfl | hi
  · refine wpOp_call 30 rfl rfl (by rfl) (f := 111) (args := #[.int .i64 (k : Nat)]) (by go_simp) ?_
    refine (HM.out _).mono ?_
    rintro e y ⟨rfl, rfl⟩
    refine ⟨_, rfl, hS0, ?_⟩
    (simp only [sA, sB, sC])
    refine anyH_tk 5 31 (.agg #[.int .u64 (c : Nat), .int .i64 (n : Nat), .int .i64 (q : Nat), .int .i64 (m : Nat)]) rfl rfl (.inl ⟨by rfl, fun w' _ => by go_simp⟩) hS0 ?_
    (simp only [sA, sB, sC])
    refine wpAnyH_all (rs := [7, 8]) (by kernel_rfl) (by simp) ?_
    intro i hi
    rcases List.mem_cons.1 hi with rfl | hi
    · refine wpOp_call 33 rfl rfl (by rfl) (f := 126) (args := #[.agg #[.int .u64 (c : Nat), .int .i64 (n : Nat), .int .i64 (q : Nat), .int .i64 (m : Nat)], av p]) (by go_simp) ?_
      refine (HT.out _).mono ?_
      rintro e y1 ⟨rfl, y1f⟩
      have y1g : Fr (fun _ => False) W y1 := Fr.trans hS0 y1f (fun _ _ q => q)
      refine ⟨_, rfl, y1g, ?_⟩
      (simp only [sA, sB, sC])
      refine wpAnyH_all (rs := [8]) (by kernel_rfl) (by simp) ?_
      intro i hi
      obtain rfl := List.mem_singleton.1 hi
      refine wpOp_value 9 _ rfl rfl (by rfl) (run_zero_op 177 rfl zeroHalf) ?_
      have fa : Fr (fun _ => False) W (y1.alloc (.cells (cellsB (nought 64)).toArray 177)) := y1g.alloc _
      have ba := Blk.new y1 177 (cellsB (nought 64)).toArray
      have hBs : W.heap.size ≤ y1.heap.size := y1g.size
      refine ⟨fa, ?_⟩
      (simp only [sA, sB, sC])
      refine wpAnyH_all (rs := [9]) (by kernel_rfl) (by simp) ?_
      intro i hi
      obtain rfl := List.mem_singleton.1 hi
      refine wpOp_skip rfl rfl (by rfl) (run_store_mid 177 _ _ rfl y1.heap.size 0 (cellsB z).toArray rfl rfl (ba.there (by simp [cellsB_len, nought_len, hzl])) (by rw [infoHalf]; simp [cellsB_len, hzl]) (all_oneCell_toArray (cellsB_one _))) ?_
      have fe := Fr.setCells (F := fun _ => False) (vs := cellsB z) (o := 0) (.inr hBs) fa
      have be' := ba.over (o := 0) (m := z) (by rw [nought_len, hzl]; omega)
      rw [patch_all (by rw [nought_len, hzl])] at be'
      refine ⟨fe, wpAnyH_done (by kernel_rfl) ?_ _⟩
      exact hK10 y1.heap.size _ fe hBs be'
    · obtain rfl := List.mem_singleton.1 hi
      refine wpOp_value 9 _ rfl rfl (by rfl) (run_zero_op 177 rfl zeroHalf) ?_
      have fa : Fr (fun _ => False) W (W.drew.alloc (.cells (cellsB (nought 64)).toArray 177)) := hS0.alloc _
      have ba := Blk.new W.drew 177 (cellsB (nought 64)).toArray
      have hBs : W.heap.size ≤ W.drew.heap.size := hS0.size
      refine ⟨fa, ?_⟩
      (simp only [sA, sB, sC])
      refine wpAnyH_all (rs := [7]) (by kernel_rfl) (by simp) ?_
      intro i hi
      obtain rfl := List.mem_singleton.1 hi
      refine wpOp_call 33 rfl rfl (by rfl) (f := 126) (args := #[.agg #[.int .u64 (c : Nat), .int .i64 (n : Nat), .int .i64 (q : Nat), .int .i64 (m : Nat)], av p]) (by go_simp) ?_
      refine (HT.out _).mono ?_
      rintro e y1 ⟨rfl, y1f⟩
      have y1g : Fr (fun _ => False) W y1 := Fr.trans fa y1f (fun _ _ q => q)
      refine ⟨_, rfl, y1g, ?_⟩
      (simp only [sA, sB, sC])
      have bb := ba.keep y1f (fun q => q)
      refine wpAnyH_all (rs := [9]) (by kernel_rfl) (by simp) ?_
      intro i hi
      obtain rfl := List.mem_singleton.1 hi
      refine wpOp_skip rfl rfl (by rfl) (run_store_mid 177 _ _ rfl W.drew.heap.size 0 (cellsB z).toArray rfl rfl (bb.there (by simp [cellsB_len, nought_len, hzl])) (by rw [infoHalf]; simp [cellsB_len, hzl]) (all_oneCell_toArray (cellsB_one _))) ?_
      have fe := Fr.setCells (F := fun _ => False) (vs := cellsB z) (o := 0) (.inr hBs) y1g
      have be' := bb.over (o := 0) (m := z) (by rw [nought_len, hzl]; omega)
      rw [patch_all (by rw [nought_len, hzl])] at be'
      refine ⟨fe, wpAnyH_done (by kernel_rfl) ?_ _⟩
      exact hK10 W.drew.heap.size _ fe hBs be'
  · obtain rfl := List.mem_singleton.1 hi
    refine wpOp_value 9 _ rfl rfl (by rfl) (run_zero_op 177 rfl zeroHalf) ?_
    have fa : Fr (fun _ => False) W (W.drew.alloc (.cells (cellsB (nought 64)).toArray 177)) := hS0.alloc _
    have ba := Blk.new W.drew 177 (cellsB (nought 64)).toArray
    have hBs : W.heap.size ≤ W.drew.heap.size := hS0.size
    refine ⟨fa, ?_⟩
    (simp only [sA, sB, sC])
    refine wpAnyH_all (rs := [4]) (by kernel_rfl) (by simp) ?_
    intro i hi
    obtain rfl := List.mem_singleton.1 hi
    refine wpOp_call 30 rfl rfl (by rfl) (f := 111) (args := #[.int .i64 (k : Nat)]) (by go_simp) ?_
    refine (HM.out _).mono ?_
    rintro e y ⟨rfl, rfl⟩
    refine ⟨_, rfl, fa, ?_⟩
    (simp only [sA, sB, sC])
    refine anyH_tk 5 31 (.agg #[.int .u64 (c : Nat), .int .i64 (n : Nat), .int .i64 (q : Nat), .int .i64 (m : Nat)]) rfl rfl (.inl ⟨by rfl, fun w' _ => by go_simp⟩) fa ?_
    (simp only [sA, sB, sC])
    refine wpAnyH_all (rs := [7]) (by kernel_rfl) (by simp) ?_
    intro i hi
    obtain rfl := List.mem_singleton.1 hi
    refine wpOp_call 33 rfl rfl (by rfl) (f := 126) (args := #[.agg #[.int .u64 (c : Nat), .int .i64 (n : Nat), .int .i64 (q : Nat), .int .i64 (m : Nat)], av p]) (by go_simp) ?_
    refine (HT.out _).mono ?_
    rintro e y1 ⟨rfl, y1f⟩
    have y1g : Fr (fun _ => False) W y1 := Fr.trans fa y1f (fun _ _ q => q)
    refine ⟨_, rfl, y1g, ?_⟩
    (simp only [sA, sB, sC])
    have bb := ba.keep y1f (fun q => q)
    refine wpAnyH_all (rs := [9]) (by kernel_rfl) (by simp) ?_
    intro i hi
    obtain rfl := List.mem_singleton.1 hi
    refine wpOp_skip rfl rfl (by rfl) (run_store_mid 177 _ _ rfl W.drew.heap.size 0 (cellsB z).toArray rfl rfl (bb.there (by simp [cellsB_len, nought_len, hzl])) (by rw [infoHalf]; simp [cellsB_len, hzl]) (all_oneCell_toArray (cellsB_one _))) ?_
    have fe := Fr.setCells (F := fun _ => False) (vs := cellsB z) (o := 0) (.inr hBs) y1g
    have be' := bb.over (o := 0) (m := z) (by rw [nought_len, hzl]; omega)
    rw [patch_all (by rw [nought_len, hzl])] at be'
    refine ⟨fe, wpAnyH_done (by kernel_rfl) ?_ _⟩
    exact hK10 W.drew.heap.size _ fe hBs be'
 case done =>
  rintro D xs W hD rfl ⟨i0, i1, i2, i3, i4⟩ hK
  have c0 := i3.cell 0
  simp at c0
  have HI := Lib.hid (And.intro i0 (And.intro i1 (And.intro i2 (And.intro i3 i4))))
  clear i0 i1 i2 i3 i4 hsq
  gi_wp2
  refine ⟨by simp, .inl ⟨_, _, rfl, run_takeDeferred hK, ?_⟩⟩
  have hg := grownBy_putObj' W D (.deferred none)
  have hfin := HI.out.2.2.2.2.grown hg (fun j e => .inr (by injection e with e; omega))
  have hbl : Blk (W.putObj D (.deferred none)) R 83 _ := (hg.block R HI.out.2.2.1.lt (fun e => by injection e with e; omega)).trans HI.out.2.2.1
  rw [rowB_is hpl hm0 (by rw [hr.len]; exact HMN.out.1) HMN.out.2] at hbl
  exact ⟨_, results_tmp2 rfl _ _ _, R, rfl, by omega, hbl, hfin⟩
 case stop =>
  rintro D c' pre W _ _ h _
  exact h.elim
end Go.Proofs.YtcnlgbjkjlbmbaaGreat

namespace Go.Proofs.YtcnlgbjkjlbmbaaGreat
open Go.RowKit
attribute [local go_sem] Oper.semAt_some

set_option maxRecDepth 100000 in
theorem results_tog {tmps : Array Value} {w : World} {g2 g3 : Nat} {x y v : Value} (h2 : tmps.getD 2 undef = .pointer (some ⟨g2, 0, none⟩)) (h3 : tmps.getD 3 undef = .pointer (some ⟨g3, 0, none⟩))
 (b2 : Blk w g2 148 #[x, y]) (b3 : Blk w g3 46 #[v]) : (results Tryz.f122 tmps).run Tryz.prog w = .ok (.tuple #[.agg #[x, y], v]) w := by
 have e2 := run_loadVar_row (P := Tryz.prog) w g2 148 148 #[x, y] (0, 0) _ b2 Tryz.underlying148 rfl infoTag
 have c3 := b3.cell 0
 simp at c3
 have h2' : tmps[2]?.getD undef = .pointer (some ⟨g2, 0, none⟩) := by simpa using h2
 have h3' : tmps[3]?.getD undef = .pointer (some ⟨g3, 0, none⟩) := by simpa using h3
 have e3 : (loadVar 46 ⟨g3, 0, none⟩).run Tryz.prog w = .ok v w := by go_simp
 simp [results, Tryz.f122, h2', h3', asAddr, e2, e3]

def hv (ss : List (List UInt8)) (k : Nat) : List UInt8 := ((ss[k / 2]?.getD (nought 128)).drop (64 * (k % 2))).take 64
set_option maxRecDepth 100000 in
theorem hv_len {ss : List (List UInt8)} (hs : ∀ s ∈ ss, s.length = 128) (k : Nat) : (hv ss k).length = 64 := by
 have h1 : (ss[k / 2]?.getD (nought 128)).length = 128 := by
  cases h : ss[k / 2]? with
  | none => simp [nought]
  | some s => exact hs s (List.mem_of_getElem? h)
 unfold hv
 rw [List.length_take, List.length_drop, h1]
 omega
def fhOf (ss : List (List UInt8)) (hs : ∀ s ∈ ss, s.length = 128) (h0 : 0 < 2 * ss.length) (k : Nat) : Pl (2 * ss.length) 64 :=
 if h : k < 2 * ss.length then ⟨(k, hv ss k), h, hv_len hs k⟩ else ⟨(0, nought 64), h0, by simp [nought]⟩
set_option maxRecDepth 100000 in
theorem fhOf_at {ss : List (List UInt8)} (hs : ∀ s ∈ ss, s.length = 128) (h0 : 0 < 2 * ss.length) {k : Nat} (h : k < 2 * ss.length) : (fhOf ss hs h0 k).1.1 = k ∧ (fhOf ss hs h0 k).1.2 = hv ss k := by
 unfold fhOf
 rw [dif_pos h]
 exact ⟨rfl, rfl⟩
set_option maxRecDepth 100000 in
theorem halves_stops (F : Nat → Prop) (Bs b off cap : Nat) (ss : List (List UInt8)) (hs : ∀ s ∈ ss, s.length = 128) (h0 : 0 < 2 * ss.length) (hreach : ss.length ≤ 1099511627776) (hb : ¬ F b) (hBn : ¬ F Bs) (w : World)
 (hBs : Blk w Bs 71 #[.slice (some ⟨b, off, none⟩) ss.length cap]) (hsec : SecsAt w b off ss) :
 SeqStopsK Fence.wide 9 Tryz.prog 151 #[.pointer (some ⟨Bs, 0, none⟩)] (encPl (N := 2 * ss.length) (sz := 64)) (Fr F) (fun ys => ys = upto (fhOf ss hs h0) (2 * ss.length)) (fun pre => ∃ k, k ≤ 2 * ss.length ∧ pre = upto (fhOf ss hs h0) k) (2 * ss.length) w := fun l J Jx W hW hJ _ hY hj => by
 have hf : Fr (fun _ => False) w W := Fr.of_below hW
 have hc := (hBs.keep hf (fun q => q)).cell 0
 have hsec' : SecsAt W b off ss := fun i s hi => ⟨(hsec i s hi).1, fun j v hv => by
  have h1 := (hsec i s hi).2 j v hv
  exact (hf.cell (World.block_lt_of_cell? w _ h1) (fun q => q)).trans h1⟩
 refine halves1_in F l Bs b off cap ss hreach hb (fhOf ss hs h0) (fun k s hk => ?_) J Jx (fun s A B hsA hg => hJ s A B none hsA hg (fun r e => by cases e)) hY W hBn (by simpa using hc) hsec' hj
 have hlt : k < 2 * ss.length := by
  have := (List.getElem?_eq_some_iff.1 hk).1
  omega
 obtain ⟨e1, e2⟩ := fhOf_at hs h0 hlt
 exact ⟨e1, by rw [e2, hv, hk]; rfl⟩

section
variable {ops : Array Oper} {rest : List Oper} {op : Oper} {a : Act} {w : World} {Q : Exit → Act → World → Prop}
set_option maxRecDepth 100000 in
theorem wpList_load_mid' (hw : Region.wanted op (yielded ops a.tmps) = true) (ty : TypeId) (x : Operand) (ho : op.op = .load ty x)
 (b o : Nat) (hx : a.eval x = .pointer (some ⟨b, o, none⟩)) (cs : List Value) (d : TypeDesc) (hc : w.rangeAt b o cs)
 (hu : Tryz.prog.underlying ty = some d) (hd : d.isRow = true) (hi : (Tryz.prog.info? ty).map (·.size) = some cs.length)
 (h : wpList Tryz.prog ops Q rest (a.put op.dst (.agg cs.toArray)) w) : wpList Tryz.prog ops Q (op :: rest) a w := by
 refine wpList_step fun K hK => ?_
 simp only [hw, if_true]
 exact wp_load_mid ty x ho b o hx cs d hc hu hd hi (hK _ _ h)
end

set_option maxRecDepth 100000 in
theorem two_cells (w : World) : ∃ W, W = (w.alloc (.cells #[.int .u64 0, .int .i64 0] 148)).alloc (.cells #[.slice none 0 0] 46) ∧ Blk W w.heap.size 148 #[.int .u64 0, .int .i64 0] ∧ Blk W (w.heap.size + 1) 46 #[.slice none 0 0] ∧ Fr (fun _ => False) w W ∧ W.heap.size = w.heap.size + 2 := by
 refine ⟨_, rfl, (Blk.new w _ _).keep (F := fun _ => False) ((Fr.refl _ _).alloc _) (fun q => q), ?_, ((Fr.refl _ w).alloc _).alloc _, by simp⟩
 have := Blk.new (w.alloc (.cells #[.int .u64 0, .int .i64 0] 148)) 46 #[.slice none 0 0]
 simpa using this
set_option maxRecDepth 100000 in
theorem none_cells {w0 w : World} {g2 g3 : Nat} (b2 : Blk w g2 148 #[.int .u64 0, .int .i64 0]) (b3 : Blk w g3 46 #[.slice none 0 0]) (hne : g2 ≠ g3) (hf : Fr (fun _ => False) w0 w) (h2 : w0.heap.size ≤ g2) (h3 : w0.heap.size ≤ g3) :
 Blk (((w.setCell ⟨g2, 0, none⟩ (.int .u64 0)).setCell ⟨g2, 1, none⟩ (.int .i64 0)).setCell ⟨g3, 0, none⟩ (.slice none 0 0)) g2 148 #[.int .u64 0, .int .i64 0] ∧
 Blk (((w.setCell ⟨g2, 0, none⟩ (.int .u64 0)).setCell ⟨g2, 1, none⟩ (.int .i64 0)).setCell ⟨g3, 0, none⟩ (.slice none 0 0)) g3 46 #[.slice none 0 0] ∧
 Fr (fun _ => False) w0 (((w.setCell ⟨g2, 0, none⟩ (.int .u64 0)).setCell ⟨g2, 1, none⟩ (.int .i64 0)).setCell ⟨g3, 0, none⟩ (.slice none 0 0)) := by
 have f2 : Fr (fun j => j = g2) w ((w.setCell ⟨g2, 0, none⟩ (.int .u64 0)).setCell ⟨g2, 1, none⟩ (.int .i64 0)) := ((Fr.refl (fun j => j = g2) w).setCell (p := ⟨g2, 0, none⟩) (.inl rfl) _).setCell (p := ⟨g2, 1, none⟩) (.inl rfl) _
 have f3 : Fr (fun j => j = g3) ((w.setCell ⟨g2, 0, none⟩ (.int .u64 0)).setCell ⟨g2, 1, none⟩ (.int .i64 0)) (((w.setCell ⟨g2, 0, none⟩ (.int .u64 0)).setCell ⟨g2, 1, none⟩ (.int .i64 0)).setCell ⟨g3, 0, none⟩ (.slice none 0 0)) := (Fr.refl (fun j => j = g3) _).setCell (p := ⟨g3, 0, none⟩) (.inl rfl) _
 refine ⟨((b2.set_ 0 (.int .u64 0)).set_ 1 (.int .i64 0)).keep f3 hne, (b3.keep f2 (fun e => hne e.symm)).set_ 0 _, (hf.trans f2 (fun j hj q => by omega)).trans f3 (fun j hj q => by omega)⟩

set_option maxRecDepth 100000 in
theorem tog_nil (w : World) (A : Option Addr) (cap : Nat) : Calls Tryz.prog 122 #[.slice A 0 cap] w fun e w' => e = .returned (.tuple #[.agg #[.int .u64 0, .int .i64 0], .slice none 0 0]) ∧ Fr (fun _ => False) w w' := by
 go_enter Tryz.func122, Tryz.ntmps122
 go_wp2_with fail
 obtain ⟨W, hW, b2, b3, hf, hsz⟩ := two_cells w
 rw [← hW]
 exact bodyPost_ret (results_tog rfl rfl b2 b3) rfl ⟨rfl, hf⟩

set_option maxRecDepth 100000 in
theorem tog_bad {w : World} {b off cap : Nat} {ss : List (List UInt8)} {s : List UInt8} (hsec : SecsAt w b off ss) (h0 : ss[0]? = some s) (hm : mayT (tagOf s).1 ((tagOf s).2 : Int) = false) :
 Calls Tryz.prog 122 #[.slice (some ⟨b, off, none⟩) ss.length cap] w fun e w' => e = .returned (.tuple #[.agg #[.int .u64 0, .int .i64 0], .slice none 0 0]) ∧ Fr (fun _ => False) w w' := by
 obtain ⟨hs, hrg⟩ := hsec 0 s h0
 rw [Nat.zero_mul, Nat.add_zero] at hrg
 have hlen : 0 < ss.length := (List.getElem?_eq_some_iff.1 h0).1
 obtain ⟨W, hW, b2, b3, hf, hsz⟩ := two_cells w
 have HR : Hid (W.rangeAt b off (cellsB s)) := Lib.hid fun j v hv => (hf.cell (World.block_lt_of_cell? w _ (hrg j v hv)) (fun q => q)).trans (hrg j v hv)
 have HW := Lib.hid (And.intro b2 (And.intro b3 (And.intro hf hsz)))
 have HWW := Lib.hid hW
 have HT := Lib.hid (tag_any W s hs)
 have hne : ((ss.length : Int) == 0) = false := by rw [beq_eq_false_iff_ne]; omega
 clear hrg hsec h0 b2 b3 hf hsz hW
 generalize tagOf s = t at *
 obtain ⟨t1, t2⟩ := t
 simp only at hm
 go_enter Tryz.func122, Tryz.ntmps122
 go_wp2_with (refine wpList_load_mid' (by rfl) 83 _ rfl b off rfl (cellsB s) _ (HWW.out ▸ HR.out) Tryz.underlying83 rfl (by rw [infoSector, cellsB_len, hs]) ?_)
 rw [← HWW.out]
 refine HT.out.mono ?_
 rintro e w2 ⟨rfl, hf2⟩
 have H2 := Lib.hid (And.intro (HW.out.1.keep hf2 (fun q => q)) (And.intro (HW.out.2.1.keep hf2 (fun q => q)) (HW.out.2.2.1.trans hf2 (fun _ _ q => q))))
 clear hf2
 go_wp2_with fail
 refine (may_any w2 t1 (t2 : Int)).mono ?_
 rintro e w3 ⟨rfl, hf3⟩
 rw [hm]
 have b2 := H2.out.1.keep hf3 (fun q => q)
 have b3 := H2.out.2.1.keep hf3 (fun q => q)
 have c0 := b2.cell 0
 have c1 := b2.cell 1
 have f0 := b2.frozen 0
 have f1 := b2.frozen 1
 have d0 := b3.cell 0
 have e0 := b3.frozen 0
 simp at c0 c1 d0
 have H3 := Lib.hid (And.intro b2 (And.intro b3 (H2.out.2.2.trans hf3 (fun _ _ q => q))))
 clear b2 b3 hf3
 go_wp2_with fail
 obtain ⟨c2, c3, hfr⟩ := none_cells H3.out.1 H3.out.2.1 (by omega) H3.out.2.2 (Nat.le_refl _) (by omega)
 exact bodyPost_ret (results_tog rfl rfl c2 c3) rfl ⟨rfl, hfr⟩
end Go.Proofs.YtcnlgbjkjlbmbaaGreat

namespace Go.Proofs.YtcnlgbjkjlbmbaaGreat
open Go.RowKit
attribute [local go_sem] Oper.semAt_some

def hdEq (x y : Hd) : Bool := x.c == y.c && x.n == y.n && x.p == y.p && x.m == y.m
set_option maxRecDepth 100000 in
theorem hdEq_iff {x y : Hd} : hdEq x y = true ↔ x = y := by
 cases x; cases y
 simp [hdEq, and_assoc]
set_option maxRecDepth 100000 in
theorem nat_beq (a b : Nat) : (a == b) = decide (a = b) := by
 by_cases h : a = b <;> simp [h]
set_option maxRecDepth 100000 in
theorem hd_neq (c n p m c' n' p' m' : Nat) (w : World) : (binOp .neq 180 (.agg #[.int .u64 (c : Nat), .int .i64 (n : Nat), .int .i64 (p : Nat), .int .i64 (m : Nat)]) (.agg #[.int .u64 (c' : Nat), .int .i64 (n' : Nat), .int .i64 (p' : Nat), .int .i64 (m' : Nat)])).run Tryz.prog w = .ok (.bool (!hdEq ⟨c, n, p, m⟩ ⟨c', n', p', m'⟩)) w := by
 go_simp
 unfold hdEq
 by_cases h1 : c = c' <;> by_cases h2 : n = n' <;> by_cases h3 : p = p' <;> by_cases h4 : m = m' <;> simp [h1, h2, h3, h4, Int.natCast_inj, nat_beq]
set_option maxRecDepth 100000 in
theorem halves_any (w : World) (A : Option Addr) (n c : Nat) : Calls Tryz.prog 141 #[.slice A n c] w fun e w' => e = .returned (.func (.func 151) #[] #[.pointer (some ⟨w.heap.size, 0, none⟩)]) ∧ w' = w.alloc (.cells #[.slice A n c] 71) := by
 go_enter Tryz.func141, Tryz.ntmps141
 go_wp2_with fail
 go_ret
 exact ⟨rfl, rfl⟩

def pcs {N : Nat} (pre : List (Pl N 64)) : List UInt8 := pre.flatMap fun x => x.1.2.drop 16
set_option maxRecDepth 100000 in
theorem pcs_len {N : Nat} (pre : List (Pl N 64)) : (pcs pre).length = pre.length * 48 := by
 unfold pcs
 induction pre with
 | nil => simp
 | cons y r ih =>
   have := y.2.2
   simp only [List.flatMap_cons, List.length_append, List.length_drop, List.length_cons]
   omega
def Good {N : Nat} (c n m : Nat) (pre : List (Pl N 64)) : Prop := ∀ x ∈ pre, hdOf x.1.2 = ⟨c, n, x.1.1, m⟩ ∧ x.1.1 + 1 ≠ m

def togOf (ss : List (List UInt8)) : Option (List UInt8) :=
 let x := hdOf (hv ss 0)
 if 1 ≤ x.m ∧ x.m ≤ 2 * ss.length ∧ (List.range x.m).all (fun k => hdEq (hdOf (hv ss k)) ⟨x.c, x.n, k, x.m⟩) = true then some ((List.range x.m).flatMap fun k => (hv ss k).drop 16) else none

set_option maxRecDepth 100000 in
theorem pcs_upto {ss : List (List UInt8)} (hs : ∀ s ∈ ss, s.length = 128) (h0 : 0 < 2 * ss.length) : ∀ k, k ≤ 2 * ss.length → pcs (upto (fhOf ss hs h0) k) = (List.range k).flatMap fun k => (hv ss k).drop 16
 | 0, _ => rfl
 | k + 1, hk => by
   have ih := pcs_upto hs h0 k (by omega)
   unfold pcs at ih ⊢
   rw [upto_succ, List.flatMap_append, ih, List.range_succ, List.flatMap_append]
   simp [(fhOf_at hs h0 (k := k) (by omega)).2]
set_option maxRecDepth 100000 in
theorem mem_upto {α : Type} {f : Nat → α} {k j : Nat} (h : j < k) : f j ∈ upto f k := by
 unfold upto
 exact List.mem_map.2 ⟨j, List.mem_range.2 h, rfl⟩

set_option maxRecDepth 100000 in
theorem tog_done {ss : List (List UInt8)} (hs : ∀ s ∈ ss, s.length = 128) (h0 : 0 < 2 * ss.length) {c n p m : Nat} (hx : hdOf (hv ss 0) = ⟨c, n, p, m⟩) (hg : Good c n m (upto (fhOf ss hs h0) (2 * ss.length))) : togOf ss = none := by
 unfold togOf
 rw [hx]
 rw [if_neg]
 rintro ⟨h1, h2, _⟩
 simp only at h1 h2
 have h3 := (hg _ (mem_upto (f := fhOf ss hs h0) (show m - 1 < 2 * ss.length by omega))).2
 rw [(fhOf_at hs h0 (by omega)).1] at h3
 omega
set_option maxRecDepth 100000 in
theorem tog_break {ss : List (List UInt8)} (hs : ∀ s ∈ ss, s.length = 128) (h0 : 0 < 2 * ss.length) {c n p m k : Nat} (hx : hdOf (hv ss 0) = ⟨c, n, p, m⟩) (hk : k < 2 * ss.length) (hg : Good c n m (upto (fhOf ss hs h0) k)) (hb : hdOf (hv ss k) ≠ ⟨c, n, k, m⟩) : togOf ss = none := by
 unfold togOf
 rw [hx]
 rw [if_neg]
 rintro ⟨h1, h2, h3⟩
 simp only at h1 h2 h3
 rcases Nat.lt_or_ge k m with h4 | h4
 · have := List.all_eq_true.1 h3 k (List.mem_range.2 h4)
   exact hb (hdEq_iff.1 this)
 · have h5 := (hg _ (mem_upto (f := fhOf ss hs h0) (show m - 1 < k by omega))).2
   rw [(fhOf_at hs h0 (by omega)).1] at h5
   omega
set_option maxRecDepth 100000 in
theorem tog_last {ss : List (List UInt8)} (hs : ∀ s ∈ ss, s.length = 128) (h0 : 0 < 2 * ss.length) {c n p m k : Nat} (hx : hdOf (hv ss 0) = ⟨c, n, p, m⟩) (hk : k < 2 * ss.length) (hg : Good c n m (upto (fhOf ss hs h0) k)) (hb : hdOf (hv ss k) = ⟨c, n, k, m⟩) (hm : k + 1 = m) :
 togOf ss = some (pcs (upto (fhOf ss hs h0) (k + 1))) := by
 unfold togOf
 rw [hx]
 rw [if_pos]
 · rw [pcs_upto hs h0 (k + 1) (by omega), hm]
 · simp only
   refine ⟨by omega, by omega, List.all_eq_true.2 fun j hj => ?_⟩
   have hj' := List.mem_range.1 hj
   refine hdEq_iff.2 ?_
   by_cases e : j = k
   · subst e; exact hb
   · have h5 := (hg _ (mem_upto (f := fhOf ss hs h0) (show j < k by omega))).1
     obtain ⟨e1, e2⟩ := fhOf_at hs h0 (k := j) (by omega)
     rw [e1, e2] at h5
     exact h5
end Go.Proofs.YtcnlgbjkjlbmbaaGreat


