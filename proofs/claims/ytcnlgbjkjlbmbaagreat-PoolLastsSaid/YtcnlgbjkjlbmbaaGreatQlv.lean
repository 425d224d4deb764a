/- couponref06, couponlaw06: live. -/
import Derived.Test.YtcnlgbjkjlbmbaaGreatQlw
namespace Go.Proofs.YtcnlgbjkjlbmbaaGreat
open Go.RowKit

theorem ListV.at_ {w : World} {A : Option Addr} {n cap : Nat} {xs : List ActR} {s : ActR} {k : Nat} (h : ListV w (.slice A n cap) xs) (hk : xs[k]? = some s) : ∃ b off, A = some ⟨b, off, none⟩ ∧ ActK w s ∧ w.rangeAt b (off + k * 4) (cellsA s) := by
 obtain ⟨A0, cap0, e0, _, h3⟩ := h
 injection e0 with e1 e2 e3
 subst e1
 obtain ⟨b, off, rfl, hat⟩ := h3 (by have := (List.getElem?_eq_some_iff.1 hk).1; omega)
 exact ⟨b, off, rfl, (hat k s hk).1, (hat k s hk).2 w (Fr.refl _ w)⟩
theorem step_cells {w : World} {b : Nat} {kd sl nx : Int} {As : Option Addr} {ns cs : Nat} (h : Blk w b 48 #[.int .i64 kd, .int .i64 sl, .int .i64 nx, .slice As ns cs]) : w.cell? ⟨b, 0, none⟩ = some (.int .i64 kd) ∧ w.cell? ⟨b, 1, none⟩ = some (.int .i64 sl) ∧ w.cell? ⟨b, 2, none⟩ = some (.int .i64 nx) ∧ w.cell? ⟨b, 3, none⟩ = some (.slice As ns cs) := by
 refine ⟨?_, ?_, ?_, ?_⟩ <;> rw [h.cell] <;> rfl
theorem inE_no {x : PX} (n : Int) : ((x.inE n : Int) == 10) = false := by
 unfold PX.inE
 split <;> rfl
def LvQ (w w' : World) (B g z N K : Nat) (v : Value) (ms : List (List (List UInt8))) : Prop := MsP w' v ms ∧ (∃ P d, DT w' B g d P ∧ AfL d z N K ms ∧ d.most 1000000) ∧ Fr (fun b => B ≤ b) w w' ∧ ∀ m ∈ ms, m.length = N
theorem AfL.of_one {z N K K' : Nat} {F : Nat → List UInt8} {d : DS} {m : List (List UInt8)} (h : AfP d z N K F F) (hK : K ≤ K') (e : m = (List.range N).map F) : AfL d z N K' [m] := (h.list (ms := [m]) (by rw [e]; simp) (by rw [e]; simp)).mono hK
theorem AfL.of_two {z N K K' : Nat} {F G : Nat → List UInt8} {d : DS} {m m' : List (List UInt8)} (h : AfP d z N K F G) (hK : K ≤ K') (e : m = (List.range N).map F) (e' : m' = (List.range N).map G) : AfL d z N K' [m, m'] := (h.list (ms := [m, m']) (by rw [e]; simp) (by rw [e']; simp)).mono hK
theorem opP_parts {d : DS} {z fr c s e N : Nat} {q : List (Nat × List Chg)} : (opP d z fr c s e N q).z = z ∧ (opP d z fr c s e N q).N = N ∧ (opP d z fr c s e N q).f1 = (fun _ => []) ∧ (opP d z fr c s e N q).fr = fr ∧ (opP d z fr c s e N q).f2 = (fun _ => []) := by
 unfold opP
 split <;> exact ⟨rfl, rfl, rfl, rfl, rfl⟩
theorem pages_of_same {x y : PX} (hN : y.N = x.N) (hC : ∀ n, n < x.N → y.C n = x.C n) : pagesOf y = pagesOf x := by
 unfold pagesOf
 rw [hN]
 exact List.map_congr_left fun i hi => hC i (List.mem_range.1 hi)
theorem ckpt_ok {x : PX} {K : Nat} (h : x.Ok K) (hK : K + 1 < maxC) (ok : x.ckOk = true) : x.ckpt.Ok (K + 1) ∧ pagesOf x.ckpt = pagesOf x ∧ x.ckpt.r = x.r ∧ x.ckpt.N = x.N ∧ x.ckpt.z = x.z := by
 have h1 := (h.mono (Nat.le_succ K)).ckpt (by have := h.life.cK; omega) (by have := h.life.cK; omega) ok
 exact ⟨h1.1, pages_of_same rfl h1.2, rfl, rfl, rfl⟩
theorem com_ok {x : PX} {K : Nat} (h : x.Ok K) (hK : K + 1 < maxC) (h1 : 1 ≤ x.m) (h6 : x.m ≤ 60) (hz : x.need ≤ x.z) (ok : x.comOk = true) : x.com.Ok (K + 1) ∧ pagesOf x.com = setCh (pagesOf x) x.r ∧ x.com.r = [] ∧ x.com.N = x.N ∧ x.com.z = x.z := by
 have hh := h.com hK h1 h6 hz ok
 exact ⟨hh.1, (pagesOf_com com_N.1 hh.2).symm, PX.r_nil com_f1, com_N.1, com_N.2⟩
theorem setCh_V {x : PX} : setCh (pagesOf x) x.r = (List.range x.N).map x.V := by
 have := pagesOf_com (x := x) (y := { x with f2 := overF x.f1 x.f2 }) rfl (fun n hn => by
  show (if overF x.f1 x.f2 n ≠ [] then overF x.f1 x.f2 n else pgAt x.d x.z n) = x.V n
  unfold PX.V PX.C overF
  by_cases e : x.f1 n ≠ []
  · simp [e]
  · simp [e])
 rw [this]
 unfold pagesOf
 exact List.map_congr_left fun i hi => by
  show (if overF x.f1 x.f2 i ≠ [] then overF x.f1 x.f2 i else pgAt x.d x.z i) = x.V i
  unfold PX.V PX.C overF
  by_cases e : x.f1 i ≠ []
  · simp [e]
  · simp [e]
set_option maxRecDepth 100000 in
set_option maxHeartbeats 16000000 in
theorem live_any6 {w : World} {B g z c s e N K fr : Nat} {P : Nat → Prop} {d : DS} {q : List (Nat × List Chg)} (h : DT w B g d P) (k : DR d z c s q e N K) (hK : K + 40 < maxC) (h2 : 2 ≤ fr) (hM : fr ≤ 100) {sv : Value} {xs : List ActR} (hx : ∀ w', Fr (fun b => B ≤ b) w w' → ListV w' sv xs) (hxs : xs.length ≤ 15) (hok : ∀ x ∈ xs, x.n ≤ 600) {uv : Value} {pgs : List (List UInt8)} (hu : PgsV w uv pgs) (hut : OT 50 w uv) (hpg : pgs = (List.range N).map (CD d z N q)) (hN8 : N ≤ 80) (hB : B ≤ w.heap.size) :
 Calls Tryz.prog 12 #[.pointer (some ⟨g, 0, none⟩), .int .i64 (z : Nat), .int .i64 (fr : Nat), sv, uv] w fun en w' => ∃ v ms, en = .returned (.tuple #[v, .bool true]) ∧ LvQ w w' B g z N (K + 30) v ms := by
 have HX := Lib.hid (And.intro hx (And.intro hxs hok))
 obtain ⟨E0, hE0⟩ : ∃ E0 : Int, E0 = if opOk d z c s N q then 0 else 10 := ⟨_, rfl⟩
 have HO := Lib.hid (pa_open (fr := fr) h k (by omega) h2 hM)
 rw [← hE0] at HO
 obtain ⟨T, hT⟩ : ∃ T, T = opOk d z c s N q := ⟨_, rfl⟩
 rw [← hT] at HO hE0
 have hzM := k.zM
 have hN4 := k.n4
 have hlen : pgs.length = N := by rw [hpg]; simp
 obtain ⟨Au, cu, hue, _⟩ := id hu
 rw [hlen] at hue
 subst hue
 have H0 := Lib.hid (And.intro h (And.intro k (And.intro hu (And.intro hut (And.intro hpg hlen)))))
 obtain ⟨A, cap, hse, hxm, _⟩ := hx w (Fr.refl _ w)
 obtain ⟨n, hn⟩ : ∃ n, n = xs.length := ⟨_, rfl⟩
 rw [← hn] at hse hxm hxs
 subst hse
 have HN := Lib.hid hn
 have HT := Lib.hid hT
 have HE0 := Lib.hid hE0
 clear h k hx hok hu hut hpg hlen hn hxm hT hE0
 go_enter Tryz.func12, Tryz.ntmps12
 go_wp2_with fail
 refine HO.out.mono ?_
 rintro en w1 ⟨v, rfl, f1, o1, o2⟩
 have HFB := Lib.hid (H0.out.1.low (F := P) f1)
 have HU1 := Lib.hid (And.intro (H0.out.2.2.1.keep f1 (H0.out.2.2.2.1.off H0.out.1.off (.inr (.inl rfl)))) (H0.out.2.2.2.1.keep f1 (H0.out.2.2.2.1.off H0.out.1.off (.inr (.inl rfl)))))
 cases T with
 | false =>
   obtain ⟨rfl, P1, hd1, _⟩ := o1 rfl
   obtain rfl : E0 = 10 := HE0.out
   have HD := Lib.hid hd1
   clear o1 o2 hd1 f1 HO HE0
   go_wp2_with fail
   have fW : Fr (fun _ => False) w1 (w1.alloc (.cells #[.slice Au N cu] 34)) := (Fr.refl _ w1).alloc _
   obtain ⟨P2, hd2⟩ := HD.out.new fW
   refine (adead_any hd2.1).mono ?_
   rintro en w2 ⟨rfl, rfl⟩
   rw [opD_dd HT.out.symm]
   have HW := Lib.hid (And.intro hd2 fW)
   clear hd2 fW
   go_wp2_with fail
   go_ret2
   exact ⟨_, [pgs], rfl, MsP.one (Blk.new w1 _ _) (HU1.out.1.new HW.out.2) (HU1.out.2.new HW.out.2), ⟨P2, _, HW.out.1, AfL.of_one (AfP.open H0.out.2.1 (by omega) (fun n _ => rfl) HT.out.symm) (by omega) H0.out.2.2.2.2.1, H0.out.2.1.op_most (by omega)⟩, HFB.out.trans HW.out.2 (fun _ _ q => q.elim), fun m hm => by rw [List.mem_singleton.1 hm]; exact H0.out.2.2.2.2.2⟩
 | true =>
   obtain ⟨p, S1, rfl, hA1, hS1⟩ := o2 rfl
   obtain rfl : E0 = 0 := HE0.out
   obtain ⟨x0, hx0⟩ : ∃ x0, x0 = opP d z fr c s e N q := ⟨_, rfl⟩
   obtain ⟨e1, e2, e3, e4, _⟩ := opP_parts (d := d) (z := z) (fr := fr) (c := c) (s := s) (e := e) (N := N) (q := q)
   have hop := H0.out.2.1.opened (fr := fr) (by omega) h2 hM HT.out.symm
   rw [← hx0] at hA1 e1 e2 e3 e4 hop
   have hpg0 : pagesOf x0 = pgs := by
    rw [H0.out.2.2.2.2.1]
    unfold pagesOf
    rw [e2]
    exact List.map_congr_left fun i hi => hop.2.1 i (List.mem_range.1 hi)
   have hr0 : x0.r = [] := PX.r_nil e3
   have H1 := Lib.hid (And.intro hA1 (And.intro hop.1 (And.intro e1 (And.intro e2 (And.intro hpg0 hr0)))))
   have HBG := Lib.hid (begin6_any w1 (N := N) (by omega) (z : Nat) (fr : Nat))
   clear o1 o2 hA1 hS1 hx0 e1 e2 e3 e4 hop hpg0 hr0 f1 HO HE0
   go_wp2_with fail
   refine HBG.out.mono ?_
   rintro en w2 ⟨r, rfl, hB2, hb2, hlt2, f2⟩
   have h5 : ∀ x ∈ pgs, x.length = 512 := by obtain ⟨_, _, _, _, _, q, _⟩ := HU1.out.1; exact q
   obtain ⟨hb3, f3⟩ := copied hb2 h5 (by rw [nought_len, H0.out.2.2.2.2.2])
   have y0 := (rp_cells hB2).1
   obtain ⟨W3, hW3⟩ : ∃ W3, W3 = w2.setCells w1.heap.size 0 (cellsB (flatP pgs)) := ⟨_, rfl⟩
   have hcp := copy_pages hb2 (by simp [cellsB_len, nought_len, H0.out.2.2.2.2.2]) (HU1.out.1.new f2) (by have := H0.out.2.2.2.2.2; omega) 3
   rw [H0.out.2.2.2.2.2] at hcp
   rw [← hW3] at hb3 f3 hcp
   have hST : ST W3 B p g r x0 (pagesOf x0) x0.r 0 (fr : Nat) := by
    have hr1 := H1.out.1.sub
    obtain ⟨hp1, hp2⟩ := H1.out.1.p_in
    refine ⟨by have := (hr1 p hp1).1; omega, S1, (H1.out.1.new f2).keep f3 (fun b hb e => by have := (hr1 b hb).2; omega) (fun b cs hb e => absurd (blk_type (e ▸ hb) hb2) (by decide)), ?_⟩
    rw [H1.out.2.2.2.2.1, H1.out.2.2.2.2.2, H1.out.2.2.1]
    have hpv := pgsV_blk h5 hb3 (by rw [H0.out.2.2.2.2.2]; omega)
    rw [H0.out.2.2.2.2.2] at hpv
    exact ⟨(z : Nat), _, _, _, _, [], [], hB2.keep f3 (fun e => by omega), hpv, RcV.nil _, intsN_own (World.ownsRow_nil W3 0 3 1), Nat.zero_le _, intsN_own (World.ownsRow_nil W3 0 3 1), Nat.zero_le _, fun b hb => by
     have e : w1.heap.size = b := by simpa [Value.ownBlock] using hb
     exact ⟨_, e ▸ hb3⟩, OT.none_, OT.none_, OT.none_⟩
   have H3 := Lib.hid (And.intro hST (And.intro True.intro ((HFB.out.trans f2 (fun _ _ q => q.elim)).trans f3 (fun b _ e => by have := HFB.out.size; omega))))
   clear hB2 hb2 hlt2 f2 h5 hb3 f3 hST hW3 HBG
   go_upto_region 6 with fail
   clear hcp y0
   go_wp2_with fail
   go_loopw [15] (fun i wr => ∃ (k : Nat) (x : PX) (M : Nat), i = .int .i64 k ∧ k ≤ n ∧ Hid (ST wr B p g r x (pagesOf x) x.r M (fr : Nat) ∧ x.Ok (K + 2 + k) ∧ x.N = N ∧ x.z = z ∧ M ≤ 100 * k) ∧ Hid (Fr (fun b => B ≤ b) w wr)) (fun i _ => n - (intOf i).toNat)
   case atStart => exact ⟨0, x0, 0, rfl, Nat.zero_le _, Lib.hid ⟨H3.out.1, H1.out.2.1, H1.out.2.2.2.1, H1.out.2.2.1, Nat.zero_le _⟩, Lib.hid H3.out.2.2⟩
   case round =>
    obtain ⟨k, x, M, rfl, hk, HI, HF⟩ := hrel
    by_cases hlt : k < n
    · obtain ⟨s0, hs0⟩ : ∃ s0, xs[k]? = some s0 := ⟨_, List.getElem?_eq_getElem (by have := HN.out; omega)⟩
      obtain ⟨b, off, hAe, _, hrg⟩ := (HX.out.1 wr HF.out).at_ hs0
      have hn6 := HX.out.2.2 s0 (List.mem_of_getElem? hs0)
      have hpa : ∀ W, Fr (fun b => B ≤ b) w W → Calls Tryz.prog 20 #[.slice s0.A s0.n s0.c] W fun e w' => e = .returned (av (pageOf s0.a.b)) ∧ Fr (fun _ => False) W w' := fun W f => by
       obtain ⟨_, _, _, hak, _⟩ := (HX.out.1 W f).at_ hs0
       exact page_any hak.rd (by omega)
      obtain ⟨⟨kd, sl, nx, bl⟩, As, ns, cs⟩ := s0
      subst hAe
      replace hrg : wr.rangeAt b (off + k * 4) [.int .i64 kd, .int .i64 sl, .int .i64 nx, .slice As ns cs] := hrg
      obtain ⟨pg, hpg⟩ : ∃ pg, pg = pageOf bl := ⟨_, rfl⟩
      replace hpa : ∀ W, Fr (fun b => B ≤ b) w W → Calls Tryz.prog 20 #[.slice As ns cs] W fun e w' => e = .returned (av pg) ∧ Fr (fun _ => False) W w' := by rw [hpg]; exact hpa
      have hpl : pg.length = 512 := by rw [hpg]; exact pageOf_len _
      have HPA := Lib.hid (And.intro hpa hpl)
      obtain ⟨WZ, hWZ⟩ : ∃ WZ, WZ = wr.alloc (.cells #[.int .i64 kd, .int .i64 sl, .int .i64 nx, .slice As ns cs] 48) := ⟨_, rfl⟩
      have fZ : Fr (fun _ => False) wr WZ := by rw [hWZ]; exact (Fr.refl _ wr).alloc _
      have hb8 : Blk WZ wr.heap.size 48 #[.int .i64 kd, .int .i64 sl, .int .i64 nx, .slice As ns cs] := by rw [hWZ]; exact Blk.new wr _ _
      have hSZ := HI.out.1.new fZ
      have FZ := HF.out.trans fZ (fun _ _ q => q.elim)
      obtain ⟨pb, poff, pc, hp0, hp1, hp2⟩ := hSZ.ref.1.pages (by rw [pagesOf_len, HI.out.2.2.1]; omega)
      rw [pagesOf_len, HI.out.2.2.1] at hp0 hp1 hp2
      have HZ := Lib.hid (And.intro hSZ (And.intro FZ (And.intro hb8 (And.intro hp1 hp2))))
      have HK := Lib.hid HI.out.2
      have hk0 : (0 : Int) ≤ (k : Int) := by omega
      have hkn : (k : Int) < (n : Int) := by omega
      obtain ⟨hc0, hc1, hc2, hc3⟩ := step_cells hb8
      have HCC := Lib.hid (And.intro hc1 (And.intro hc2 hc3))
      have hN9 := HI.out.2.2.1
      have hM9 := HI.out.2.2.2.2
      clear hn6 hpa hpg hpl hs0 fZ hb8 hSZ FZ hp1 hp2 HI hlt hc1 hc2 hc3
      go_upto_region 10 with (refine wpList_load_mid rfl 48 _ rfl b (off + k * 4) rfl [.int .i64 kd, .int .i64 sl, .int .i64 nx, .slice As ns cs] _ hrg Tryz.underlying48 rfl infoAct ?_)
      rw [← hWZ]
      clear hWZ hrg
      by_cases e1 : kd = 1
      · have b1 : (kd == 1) = true := by simp [e1]
        obtain ⟨S, hA, hO, hto⟩ := HZ.out.1.pool
        obtain ⟨g1, g2, g3, g4, g5⟩ := getZ_ok HK.out.1 sl
        have HG := Lib.hid (pa_getY hA HK.out.1 sl)
        obtain ⟨y, hy⟩ : ∃ y, y = x.getV sl := ⟨_, rfl⟩
        obtain ⟨E, hE⟩ : ∃ E, E = x.inE sl := ⟨_, rfl⟩
        have hE10 : ((E : Int) == 10) = false := by rw [hE]; exact inE_no sl
        rw [← hy, ← hE] at HG
        have HTO := Lib.hid (And.intro hto (And.intro g1 (And.intro g2 (And.intro g3 (And.intro g4 g5)))))
        have hc1 := HCC.out.1
        clear hA hO hto g1 g2 g3 g4 g5 hy hE e1
        go_wp2_with fail
        refine HG.out.mono ?_
        rintro en wa ⟨rfl, hT⟩
        obtain ⟨hS2, fB, _⟩ := HTO.out.1 wa _ hT HTO.out.2.2.1
        have HD := Lib.hid (And.intro hS2 fB)
        clear hT hS2 fB HG hc1 hc0 hp0
        go_wp2_with fail
        refine ⟨⟨k + 1, x.getZ sl, M, by norm_cast, by omega, Lib.hid ⟨by rw [HTO.out.2.2.2.2.2, HTO.out.2.2.2.2.1]; exact HD.out.1, HTO.out.2.1.mono (by omega), HTO.out.2.2.2.1.trans HK.out.2.1, HTO.out.2.2.1.trans HK.out.2.2.1, by omega⟩, Lib.hid (HZ.out.2.1.trans HD.out.2 (fun _ _ q => q))⟩, ?_⟩
        simp only [intOf]
        omega
      have b1 : (kd == 1) = false := by simp [e1]
      by_cases e2 : kd = 2
      · have b2 : (kd == 2) = true := by simp [e2]
        by_cases hin : inR x sl
        · obtain ⟨m, rfl⟩ : ∃ m : Nat, sl = m := ⟨sl.toNat, by unfold inR at hin; omega⟩
          have hmN : m < x.N := by unfold inR at hin; omega
          obtain ⟨E, hE⟩ : ∃ E, E = x.inE (m : Int) := ⟨_, rfl⟩
          obtain rfl : E = 0 := by rw [hE]; unfold PX.inE; rw [if_pos hin]
          have HIN := Lib.hid hmN
          have hput : x.putZ (m : Int) pg = x.putted m pg := by unfold PX.putZ; rw [if_pos hin]; rfl
          have HPT := Lib.hid hput
          have HSZ := Lib.hid (And.intro HCC.out.1 HCC.out.2.2)
          have HKX := Lib.hid HK.out.1
          clear e1 e2 hin hmN hput
          go_wp2_with fail
          (try simp only [Act.put, List.setIfInBounds_toArray, List.set_cons_zero, List.set_cons_succ])
          refine wp_region_held_drew (S := fun w' => w'.cell? ⟨wr.heap.size, 1, none⟩ = some (.int .i64 (m : Nat)) ∧ w'.cell? ⟨wr.heap.size, 3, none⟩ = some (.slice As ns cs)) (by kernel_rfl) HSZ.out (fun hS0 => ?_)
          refine anyH_tk 0 76 (.pointer (some ⟨p, 0, none⟩)) rfl rfl (.inl ⟨by rfl, fun w'' hS => by go_simp⟩) hS0 ?_
          (simp only [sA, sB, sC])
          refine anyH_tk 1 77 (.pointer (some ⟨wr.heap.size, 1, none⟩)) rfl rfl (.inl ⟨by rfl, fun w'' hS => by go_simp⟩) hS0 ?_
          (simp only [sA, sB, sC])
          refine anyH_tk 2 78 (.int .i64 (m : Nat)) rfl rfl (.inl ⟨by rfl, fun w'' hS => by have q0 := hS.1; go_simp⟩) hS0 ?_
          (simp only [sA, sB, sC])
          refine anyH_tk 3 79 (.pointer (some ⟨wr.heap.size, 3, none⟩)) rfl rfl (.inl ⟨by rfl, fun w'' hS => by go_simp⟩) hS0 ?_
          (simp only [sA, sB, sC])
          refine anyH_tk 4 80 (.slice As ns cs) rfl rfl (.inl ⟨by rfl, fun w'' hS => by have q0 := hS.2; go_simp⟩) hS0 ?_
          (simp only [sA, sB, sC])
          refine anyH_enter 5 81 (f := 20) (args := #[.slice As ns cs]) (by kernel_rfl) rfl rfl (by rfl) (by go_simp) ?_
          refine (HPA.out.1 WZ.drew HZ.out.2.1.drew).mono ?_
          rintro en wa ⟨rfl, fa⟩
          have fa' : Fr (fun _ => False) WZ wa := ((Fr.refl (fun _ => False) WZ).drew).trans fa (fun _ _ q => q)
          have hba := Blk.keep HZ.out.2.2.1 fa' (fun q => q)
          refine ⟨_, rfl, ⟨(step_cells hba).2.1, (step_cells hba).2.2.2⟩, ?_⟩
          (simp only [sA, sB, sC])
          obtain ⟨S, hA, hO, hto⟩ := (HZ.out.1.new fa').pool
          have HPU := Lib.hid (pa_putY hA HK.out.1 (m : Nat) HPA.out.2)
          rw [← hE] at HPU
          refine anyH_enter 6 82 (f := 19) (args := #[.pointer (some ⟨p, 0, none⟩), .int .i64 (m : Nat), av pg]) (by kernel_rfl) rfl rfl (by rfl) (by go_simp) ?_
          refine HPU.out.mono ?_
          rintro en wb ⟨rfl, hT⟩
          have hx2 : (x.putZ (m : Nat) pg).z = x.z := by unfold PX.putZ; split <;> rfl
          obtain ⟨hSb, fB, fS⟩ := hto wb _ hT hx2
          have hbb := hO.blk fS hba (.inr (.inr (.inr (.inr (.inr rfl)))))
          have hcb : wb.cell? ⟨wr.heap.size, 1, none⟩ = some (.int .i64 (m : Nat)) ∧ wb.cell? ⟨wr.heap.size, 3, none⟩ = some (.slice As ns cs) := ⟨(step_cells hbb).2.1, (step_cells hbb).2.2.2⟩
          refine ⟨_, rfl, hcb, ?_⟩
          (simp only [sA, sB, sC])
          refine anyH_tk 7 17 (.int .i64 0) rfl rfl (.inl ⟨by rfl, fun w'' hS => by go_simp⟩) hcb ?_
          (simp only [sA, sB, sC])
          have fa0 := fa'
          refine wpAnyH_done (by kernel_rfl) ?_ _
          clear hS0 fa fa' hA hto hT fS hba hO HPU hE hx2
          rw [HPT.out] at hSb
          have HSY := Lib.hid hcb
          have HY := Lib.hid (And.intro hSb (And.intro (HZ.out.2.1.trans (fa0.mono (fun _ _ q => q.elim) |>.trans fB (fun _ _ q => q)) (fun _ _ q => q)) hbb))
          clear hSb fB hbb hcb fa0
          go_wp2_with fail
          (try simp only [Act.put, List.setIfInBounds_toArray, List.set_cons_zero, List.set_cons_succ])
          refine wp_region_held_drew (S := fun w' => w'.cell? ⟨wr.heap.size, 1, none⟩ = some (.int .i64 (m : Nat)) ∧ w'.cell? ⟨wr.heap.size, 3, none⟩ = some (.slice As ns cs)) (by kernel_rfl) HSY.out (fun hS0 => ?_)
          refine anyH_tk 0 85 (.pointer (some ⟨r, 0, none⟩)) rfl rfl (.inl ⟨by rfl, fun w'' hS => by go_simp⟩) hS0 ?_
          (simp only [sA, sB, sC])
          refine anyH_tk 1 86 (.pointer (some ⟨wr.heap.size, 1, none⟩)) rfl rfl (.inl ⟨by rfl, fun w'' hS => by go_simp⟩) hS0 ?_
          (simp only [sA, sB, sC])
          refine anyH_tk 2 87 (.int .i64 (m : Nat)) rfl rfl (.inl ⟨by rfl, fun w'' hS => by have q0 := hS.1; go_simp⟩) hS0 ?_
          (simp only [sA, sB, sC])
          refine anyH_tk 3 88 (.pointer (some ⟨wr.heap.size, 3, none⟩)) rfl rfl (.inl ⟨by rfl, fun w'' hS => by go_simp⟩) hS0 ?_
          (simp only [sA, sB, sC])
          refine anyH_tk 4 89 (.slice As ns cs) rfl rfl (.inl ⟨by rfl, fun w'' hS => by have q0 := hS.2; go_simp⟩) hS0 ?_
          (simp only [sA, sB, sC])
          refine anyH_enter 5 90 (f := 20) (args := #[.slice As ns cs]) (by kernel_rfl) rfl rfl (by rfl) (by go_simp) ?_
          refine (HPA.out.1 wb.drew HY.out.2.1.drew).mono ?_
          rintro en wc ⟨rfl, fc⟩
          have fc' : Fr (fun _ => False) wb wc := ((Fr.refl (fun _ => False) wb).drew).trans fc (fun _ _ q => q)
          have hbc := Blk.keep HY.out.2.2 fc' (fun q => q)
          refine ⟨_, rfl, ⟨(step_cells hbc).2.1, (step_cells hbc).2.2.2⟩, ?_⟩
          (simp only [sA, sB, sC])
          obtain ⟨hRc, hrt⟩ := (HY.out.1.new fc').ref
          have HRU := Lib.hid (rput6_any hRc (by omega) (by omega) (by rw [PX.r_len]; have := PX.m_le (x := x); omega) (pagesOf_at (x := x) HIN.out) HPA.out.2 (HKX.out.C_len HIN.out))
          refine anyH_enter 6 91 (f := 36) (args := #[.pointer (some ⟨r, 0, none⟩), .int .i64 (m : Nat), av pg]) (by kernel_rfl) rfl rfl (by rfl) (by go_simp) ?_
          refine HRU.out.mono ?_
          rintro en wd ⟨rfl, hRd, fd⟩
          obtain ⟨hSd, fBd⟩ := hrt wd _ _ _ hRd fd
          have hbd := ref_blk hRc fd hbc (by decide)
          refine ⟨_, rfl, ⟨(step_cells hbd).2.1, (step_cells hbd).2.2.2⟩, ?_⟩
          (simp only [sA, sB, sC])
          refine wpAnyH_done (by kernel_rfl) ?_ _
          obtain ⟨t1, t2, t3, t4, t5⟩ := putted_ok HKX.out HIN.out HPA.out.2
          have HD := Lib.hid (And.intro hSd (And.intro ((HY.out.2.1.trans (fc'.mono (fun _ _ q => q.elim)) (fun _ _ q => q)).trans fBd (fun _ _ q => q)) (And.intro t1 (And.intro t2 (And.intro t3 (And.intro t4 t5))))))
          clear hS0 fc fc' hbc hRc hrt hRd fd hSd fBd hbd t1 t2 t3 t4 t5 HRU hc0 hp0
          go_wp2_with fail
          refine ⟨⟨k + 1, x.putted m pg, M + 1, by norm_cast, by omega, Lib.hid ⟨by rw [HD.out.2.2.2.2.2.1, HD.out.2.2.2.2.2.2]; exact HD.out.1, HD.out.2.2.1.mono (by omega), HD.out.2.2.2.2.1.trans HK.out.2.1, HD.out.2.2.2.1.trans HK.out.2.2.1, by omega⟩, Lib.hid HD.out.2.1⟩, ?_⟩
          simp only [intOf]
          omega
        · obtain ⟨E, hE⟩ : ∃ E, E = x.inE sl := ⟨_, rfl⟩
          obtain rfl : E = 2 := by rw [hE]; unfold PX.inE; rw [if_neg hin]
          have hput : x.putZ sl pg = x := by unfold PX.putZ; rw [if_neg hin]
          have HPT := Lib.hid hput
          have HSZ := Lib.hid (And.intro HCC.out.1 HCC.out.2.2)
          clear e1 e2 hin hput
          go_wp2_with fail
          (try simp only [Act.put, List.setIfInBounds_toArray, List.set_cons_zero, List.set_cons_succ])
          refine wp_region_held_drew (S := fun w' => w'.cell? ⟨wr.heap.size, 1, none⟩ = some (.int .i64 sl) ∧ w'.cell? ⟨wr.heap.size, 3, none⟩ = some (.slice As ns cs)) (by kernel_rfl) HSZ.out (fun hS0 => ?_)
          refine anyH_tk 0 76 (.pointer (some ⟨p, 0, none⟩)) rfl rfl (.inl ⟨by rfl, fun w'' hS => by go_simp⟩) hS0 ?_
          (simp only [sA, sB, sC])
          refine anyH_tk 1 77 (.pointer (some ⟨wr.heap.size, 1, none⟩)) rfl rfl (.inl ⟨by rfl, fun w'' hS => by go_simp⟩) hS0 ?_
          (simp only [sA, sB, sC])
          refine anyH_tk 2 78 (.int .i64 sl) rfl rfl (.inl ⟨by rfl, fun w'' hS => by have q0 := hS.1; go_simp⟩) hS0 ?_
          (simp only [sA, sB, sC])
          refine anyH_tk 3 79 (.pointer (some ⟨wr.heap.size, 3, none⟩)) rfl rfl (.inl ⟨by rfl, fun w'' hS => by go_simp⟩) hS0 ?_
          (simp only [sA, sB, sC])
          refine anyH_tk 4 80 (.slice As ns cs) rfl rfl (.inl ⟨by rfl, fun w'' hS => by have q0 := hS.2; go_simp⟩) hS0 ?_
          (simp only [sA, sB, sC])
          refine anyH_enter 5 81 (f := 20) (args := #[.slice As ns cs]) (by kernel_rfl) rfl rfl (by rfl) (by go_simp) ?_
          refine (HPA.out.1 WZ.drew HZ.out.2.1.drew).mono ?_
          rintro en wa ⟨rfl, fa⟩
          have fa' : Fr (fun _ => False) WZ wa := ((Fr.refl (fun _ => False) WZ).drew).trans fa (fun _ _ q => q)
          have hba := Blk.keep HZ.out.2.2.1 fa' (fun q => q)
          refine ⟨_, rfl, ⟨(step_cells hba).2.1, (step_cells hba).2.2.2⟩, ?_⟩
          (simp only [sA, sB, sC])
          obtain ⟨S, hA, hO, hto⟩ := (HZ.out.1.new fa').pool
          have HPU := Lib.hid (pa_putY hA HK.out.1 sl HPA.out.2)
          rw [← hE] at HPU
          refine anyH_enter 6 82 (f := 19) (args := #[.pointer (some ⟨p, 0, none⟩), .int .i64 sl, av pg]) (by kernel_rfl) rfl rfl (by rfl) (by go_simp) ?_
          refine HPU.out.mono ?_
          rintro en wb ⟨rfl, hT⟩
          have hx2 : (x.putZ sl pg).z = x.z := by unfold PX.putZ; split <;> rfl
          obtain ⟨hSb, fB, fS⟩ := hto wb _ hT hx2
          have hbb := hO.blk fS hba (.inr (.inr (.inr (.inr (.inr rfl)))))
          have hcb : wb.cell? ⟨wr.heap.size, 1, none⟩ = some (.int .i64 sl) ∧ wb.cell? ⟨wr.heap.size, 3, none⟩ = some (.slice As ns cs) := ⟨(step_cells hbb).2.1, (step_cells hbb).2.2.2⟩
          refine ⟨_, rfl, hcb, ?_⟩
          (simp only [sA, sB, sC])
          refine anyH_tk 7 17 (.int .i64 2) rfl rfl (.inl ⟨by rfl, fun w'' hS => by go_simp⟩) hcb ?_
          (simp only [sA, sB, sC])
          have fa0 := fa'
          refine wpAnyH_done (by kernel_rfl) ?_ _
          rw [HPT.out] at hSb
          have HD := Lib.hid (And.intro hSb (HZ.out.2.1.trans (fa0.mono (fun _ _ q => q.elim) |>.trans fB (fun _ _ q => q)) (fun _ _ q => q)))
          clear hS0 fa fa' hA hto hT fS hba hO HPU hE hx2 hSb fB hbb hcb fa0 hc0 hp0
          go_wp2_with fail
          refine ⟨⟨k + 1, x, M, by norm_cast, by omega, Lib.hid ⟨HD.out.1, HK.out.1.mono (by omega), HK.out.2.1, HK.out.2.2.1, by omega⟩, Lib.hid HD.out.2⟩, ?_⟩
          simp only [intOf]
          omega
      have b2 : (kd == 2) = false := by simp [e2]
      by_cases e3 : kd = 3
      · have b3 : (kd == 3) = true := by simp [e3]
        by_cases hno : x.no
        · obtain ⟨S, hA, hO, hto⟩ := HZ.out.1.pool
          obtain ⟨E, hE⟩ : ∃ E : Int, E = if x.m = 0 then 0 else if 60 < x.m then 3 else 8 := ⟨_, rfl⟩
          have hE10 : ((E : Int) == 10) = false := by
           rw [hE]
           by_cases q0 : x.m = 0
           · rw [if_pos q0]; rfl
           · rw [if_neg q0]
             by_cases q1 : 60 < x.m
             · rw [if_pos q1]; rfl
             · rw [if_neg q1]; rfl
          have hEE : ((E : Int) != E) = false := by simp
          have hno' : x.m = 0 ∨ 60 < x.m ∨ x.z < x.need := hno
          have HG := Lib.hid (pa_commit_no hA HK.out.1 hno')
          rw [← hE] at HG
          have HTO := Lib.hid (And.intro hto (And.intro hE hno'))
          clear hA hO hto hE hno' hno e1 e2 e3
          go_wp2_with fail
          refine HG.out.mono ?_
          rintro en wa ⟨rfl, hT⟩
          obtain ⟨hS2, fB, _⟩ := HTO.out.1 wa _ hT rfl
          have HRC := rcom6_no hS2.ref.1 (by rw [PX.r_len]; have := PX.m_le (x := x); omega) (by rw [PX.r_len]; exact HTO.out.2.2)
          simp only [PX.r_len] at HRC
          rw [← HTO.out.2.1] at HRC
          replace HRC := Lib.hid HRC
          have HD := Lib.hid (And.intro hS2 fB)
          clear hT hS2 fB HG hc0 hp0
          go_wp2_with fail
          refine HRC.out.mono ?_
          rintro en wb ⟨rfl, rfl⟩
          clear HRC
          go_wp2_with fail
          refine ⟨⟨k + 1, x, M, by norm_cast, by omega, Lib.hid ⟨HD.out.1, HK.out.1.mono (by omega), HK.out.2.1, HK.out.2.2.1, by omega⟩, Lib.hid (HZ.out.2.1.trans HD.out.2 (fun _ _ q => q))⟩, ?_⟩
          simp only [intOf]
          omega
        · have hno' : 1 ≤ x.m ∧ x.m ≤ 60 ∧ x.need ≤ x.z := by unfold PX.no at hno; omega
          obtain ⟨S, hA, hO, hto⟩ := HZ.out.1.pool
          have hsub := hA.sub
          have hpin := (hA.p_in).1
          obtain ⟨E, hE⟩ : ∃ E : Int, E = if x.comOk then 0 else 10 := ⟨_, rfl⟩
          have HG := Lib.hid (pa_commit_go hA HK.out.1 (by omega) hno'.1 hno'.2.1 hno'.2.2)
          rw [← hE] at HG
          have HNO := Lib.hid hno'
          have HTO := Lib.hid (And.intro hto (And.intro hO (And.intro hsub (And.intro hE hpin))))
          have HPB : Hid (∃ cs, Blk WZ p 65 cs) := Lib.hid (by obtain ⟨_, _, _, _, _, q, _⟩ := hA; exact ⟨_, q⟩)
          clear hA hO hto hsub hpin hE hno' hno e1 e2 e3
          go_wp2_with fail
          refine HG.out.mono ?_
          rintro en wa ⟨rfl, oT, oF⟩
          clear HG hc0
          by_cases hc : x.comOk = true
          · obtain rfl : E = 0 := by rw [HTO.out.2.2.2.1, if_pos hc]
            obtain ⟨c1, c2, c3, c4, c5⟩ := com_ok HK.out.1 (by omega) HNO.out.1 HNO.out.2.1 HNO.out.2.2 hc
            obtain ⟨hS2, fB, _⟩ := HTO.out.1 wa _ (oT hc) c5
            obtain ⟨hR, hrt⟩ := hS2.ref
            have hzM := HK.out.1.zM
            have HRC := Lib.hid (rcom6_go hR (by rw [PX.r_len]; have := HNO.out.2.1; omega) (by rw [pagesOf_len, HK.out.2.1]; omega) (by rw [PX.r_len]; exact ⟨HNO.out.1, HNO.out.2.1⟩) PX.r_in (by rw [PX.r_len, c5]; exact HNO.out.2.2) (by rw [c5]; exact hzM) (by rw [PX.r_len]; exact wneed_pos HNO.out.1 HNO.out.2.1))
            have HD := Lib.hid (And.intro hrt (And.intro c1 (And.intro c2 (And.intro c3 (And.intro c4 (And.intro c5 fB))))))
            clear c1 c2 c3 c4 c5 hS2 fB hR hrt oT oF hc hzM hp0
            go_wp2_with fail
            refine HRC.out.mono ?_
            rintro en wb ⟨rfl, hRb, fb⟩
            obtain ⟨hS3, fB3⟩ := HD.out.1 wb _ _ _ hRb fb
            have HE := Lib.hid (And.intro hS3 fB3)
            clear hRb fb hS3 fB3 HRC
            go_wp2_with fail
            refine ⟨⟨k + 1, x.com, M + x.r.length, by norm_cast, by omega, Lib.hid ⟨by rw [HD.out.2.2.1, HD.out.2.2.2.1]; exact HE.out.1, HD.out.2.1.mono (by omega), HD.out.2.2.2.2.1.trans HK.out.2.1, HD.out.2.2.2.2.2.1.trans HK.out.2.2.1, by rw [PX.r_len]; have := HNO.out.2.1; omega⟩, Lib.hid ((HZ.out.2.1.trans HD.out.2.2.2.2.2.2 (fun _ _ q => q)).trans HE.out.2 (fun _ _ q => q))⟩, ?_⟩
            simp only [intOf]
            omega
          · rw [Bool.not_eq_true] at hc
            obtain rfl : E = 10 := by rw [HTO.out.2.2.2.1, if_neg (by rw [hc]; decide)]
            obtain ⟨⟨zz, frr, lb, M1, M2, vv, PP, hPD⟩, fS, fB⟩ := (oF hc).dead (fun b q => (HTO.out.2.2.1 b q).1)
            have hRa := HZ.out.1.ref.1.stay fS HTO.out.2.1
            have hzM := HK.out.1.zM
            have HRC := Lib.hid (rcom6_go hRa (by rw [PX.r_len]; have := HNO.out.2.1; omega) (by rw [pagesOf_len, HK.out.2.1]; omega) (by rw [PX.r_len]; exact ⟨HNO.out.1, HNO.out.2.1⟩) PX.r_in (by rw [PX.r_len]; exact HNO.out.2.2) hzM (by rw [PX.r_len]; exact wneed_pos HNO.out.1 HNO.out.2.1))
            have hn1 := HZ.out.2.2.2.2.off HTO.out.2.1 (.inr (.inl rfl))
            have HAF : Hid (AfL x.comD z N (K + 30) [pagesOf x, setCh (pagesOf x) x.r] ∧ x.comD.most 1000000) := Lib.hid ⟨by
             have q := AfP.com HK.out.1 (by omega) HNO.out.1 HNO.out.2.1 HNO.out.2.2 hc
             have q9 := AfL.of_two (K' := K + 30) q (by omega) (m := pagesOf x) (m' := setCh (pagesOf x) x.r) rfl setCh_V
             rw [HK.out.2.1, HK.out.2.2.1] at q9
             exact q9, HK.out.1.com_most (by omega) HNO.out.1 HNO.out.2.1 HNO.out.2.2⟩
            have HD := Lib.hid (And.intro hPD (And.intro hRa (And.intro (HZ.out.2.2.2.1.keep fS hn1) (And.intro (HZ.out.2.2.2.2.keep fS hn1) fB))))
            clear hPD fS fB hRa oT oF hc hzM hn1
            go_wp2_with fail
            refine HRC.out.mono ?_
            rintro en wb ⟨rfl, hRb, fb⟩
            obtain ⟨csr, hrb⟩ := HD.out.2.1.blk
            have hof : Off wa (fun b => b = r) → True := fun _ => trivial
            obtain ⟨qb, qoff, qc, hq0, hq1, hq2⟩ := hRb.pages (by rw [setCh_len, pagesOf_len, HK.out.2.1]; omega)
            rw [setCh_len, pagesOf_len, HK.out.2.1] at hq0 hq1 hq2
            have hrp : r ≠ p := fun e => absurd (blk_type (e ▸ hrb) HD.out.1.1) (by decide)
            have hpp := HD.out.2.2.2.1.not hrb (by decide)
            have hPDb : PDx wb B p g zz frr lb M1 M2 vv PP x.comD := ⟨HD.out.1.1.keep fb (fun e => hrp e.symm), HD.out.1.2.1.keep' fb (fun b hb e => HD.out.1.2.1.off r _ _ hrb (.inl rfl) (e ▸ hb)), HD.out.1.2.2⟩
            have HPD := Lib.hid hPDb
            have HL := Lib.hid (And.intro (And.intro (HD.out.2.2.1.keep fb hpp) (HD.out.2.2.2.1.keep fb hpp)) (And.intro hq1 hq2))
            have HFW := Lib.hid ((HZ.out.2.1.trans HD.out.2.2.2.2 (fun _ _ q => q)).trans fb (fun b _ e => by rw [e]; exact HZ.out.1.1))
            have HBP := Lib.hid (HTO.out.2.2.1 p HTO.out.2.2.2.2).1
            have HSS : Hid (∀ W', Fr (fun b => b = p) wb W' → W'.cell? ⟨r, 0, none⟩ = some (.slice (some ⟨qb, qoff, none⟩) N qc)) := Lib.hid fun W' f => (f.cell (World.block_lt_of_cell? wb _ hq0) hrp).trans hq0
            clear hRb fb hrb hof hq1 hq2 hrp hpp hPDb HRC HD hp0
            go_upto_region 23 with fail
            clear hq0
            have HLN : Hid (∀ m ∈ [pagesOf x, setCh (pagesOf x) x.r], m.length = N) := Lib.hid (fun m hm => by
             simp only [List.mem_cons, List.not_mem_nil, or_false] at hm
             rcases hm with rfl | rfl
             · rw [pagesOf_len, HK.out.2.1]
             · rw [setCh_len, pagesOf_len, HK.out.2.1])
            (try simp only [Act.put, List.setIfInBounds_toArray, List.set_cons_zero, List.set_cons_succ])
            have fd : Fr (fun _ => False) wb wb.drew := (Fr.refl (fun _ => False) wb).drew
            refine wp_region_held_drew (S := fun w' => w'.cell? ⟨r, 0, none⟩ = some (.slice (some ⟨qb, qoff, none⟩) N qc)) (by kernel_rfl) (HSS.out wb.drew (fd.mono (fun _ _ q => q.elim))) (fun hS0 => ?_)
            refine anyH_tk 0 100 (.slice (some ⟨pb, poff, none⟩) N pc) rfl rfl (.inl ⟨by rfl, fun w'' hS => by go_simp⟩) hS0 ?_
            (simp only [sA, sB, sC])
            refine anyH_tk 1 101 (.pointer (some ⟨r, 0, none⟩)) rfl rfl (.inl ⟨by rfl, fun w'' hS => by go_simp⟩) hS0 ?_
            (simp only [sA, sB, sC])
            refine anyH_tk 2 102 (.pointer (some ⟨r, 0, none⟩)) rfl rfl (.inl ⟨by rfl, fun w'' hS => by go_simp⟩) hS0 ?_
            (simp only [sA, sB, sC])
            refine anyH_tk 3 103 (.pointer (some ⟨r, 0, none⟩)) rfl rfl (.inl ⟨by rfl, fun w'' hS => by go_simp⟩) hS0 ?_
            (simp only [sA, sB, sC])
            refine anyH_tk 4 104 (.slice (some ⟨qb, qoff, none⟩) N qc) rfl rfl (.inl ⟨by rfl, fun w'' hS => by have q0 : w''.cell? ⟨r, 0, none⟩ = some (.slice (some ⟨qb, qoff, none⟩) N qc) := hS; go_simp⟩) hS0 ?_
            (simp only [sA, sB, sC])
            refine anyH_tk 6 106 (.pointer (some ⟨p, 0, none⟩)) rfl rfl (.inl ⟨by rfl, fun w'' hS => by go_simp⟩) hS0 ?_
            (simp only [sA, sB, sC])
            have hPd := HPD.out.new fd
            refine anyH_alt 5 7 (by kernel_rfl) ?_ ?_
            · refine wpOp_value 105 (.slice (some ⟨wb.drew.heap.size, 0, none⟩) 2 2) rfl rfl (by rfl) (run_pgs2 (.tmp 100) (.tmp 104) rfl rfl rfl) ⟨HSS.out _ ((fd.alloc _).mono (fun _ _ q => q.elim)), ?_⟩
              (simp only [sA, sB, sC])
              obtain ⟨W1, hW1⟩ : ∃ W1, W1 = wb.drew.alloc (.cells #[.slice (some ⟨pb, poff, none⟩) N pc, .slice (some ⟨qb, qoff, none⟩) N qc] 34) := ⟨_, rfl⟩
              have fW : Fr (fun _ => False) wb W1 := by rw [hW1]; exact fd.alloc _
              have hm1 : MsP W1 (.slice (some ⟨wb.drew.heap.size, 0, none⟩) 2 2) [pagesOf x, setCh (pagesOf x) x.r] := by rw [hW1]; exact MsP.two (Blk.new wb.drew _ _) (HL.out.1.1.keep (fd.alloc _) (fun _ _ q => q)) (HL.out.1.2.keep (fd.alloc _) (fun _ _ q => q)) (HL.out.2.1.keep (fd.alloc _) (fun _ _ q => q)) (HL.out.2.2.keep (fd.alloc _) (fun _ _ q => q))
              rw [← hW1]
              refine anyH_enter 7 107 (f := 38) (args := #[.pointer (some ⟨p, 0, none⟩)]) (by kernel_rfl) rfl rfl (by rfl) (by go_simp) ?_
              refine (dead_any6 (HPD.out.new fW)).mono ?_
              rintro en wz ⟨rfl, hPz, fz⟩
              have fzW : Fr (fun b => b = p) wb wz := (fW.mono (fun _ _ q => q.elim)).trans fz (fun _ _ q => q)
              refine ⟨_, rfl, HSS.out wz fzW, ?_⟩
              (simp only [sA, sB, sC])
              refine anyH_tk 8 10 ((.slice (some ⟨wb.drew.heap.size, 0, none⟩) 2 2)) rfl rfl (.inl ⟨by rfl, fun w'' hS => by go_simp⟩) (HSS.out wz fzW) ?_
              (simp only [sA, sB, sC])
              refine anyH_tk 9 11 (.bool true) rfl rfl (.inl ⟨by rfl, fun w'' hS => by go_simp⟩) (HSS.out wz fzW) ?_
              (simp only [sA, sB, sC])
              refine wpAnyH_done (by kernel_rfl) ?_ _
              have HE : Hid (LvQ w wz B g z N (K + 30) (.slice (some ⟨wb.drew.heap.size, 0, none⟩) 2 2) [pagesOf x, setCh (pagesOf x) x.r]) := Lib.hid ⟨hm1.keep fz (one_off (HPD.out.new fW).1 (by unfold besT; decide)), ⟨PP, _, hPz.2.1, HAF.out.1, HAF.out.2⟩, HFW.out.trans fzW (fun b _ e => by rw [e]; exact HBP.out), HLN.out⟩
              clear hS0 fd hPd hW1 fW hm1 hPz fz fzW
              go_wp2_with fail
              go_ret2
              exact ⟨_, _, rfl, HE.out⟩
            · refine wpOp_call 107 (f := 38) (args := #[.pointer (some ⟨p, 0, none⟩)]) rfl rfl (by rfl) (by go_simp) ?_
              refine (dead_any6 hPd).mono ?_
              rintro en wz ⟨rfl, hPz, fz⟩
              have fzW : Fr (fun b => b = p) wb wz := (fd.mono (fun _ _ q => q.elim)).trans fz (fun _ _ q => q)
              refine ⟨_, rfl, HSS.out wz fzW, ?_⟩
              (simp only [sA, sB, sC])
              obtain ⟨W1, hW1⟩ : ∃ W1, W1 = wz.alloc (.cells #[.slice (some ⟨pb, poff, none⟩) N pc, .slice (some ⟨qb, qoff, none⟩) N qc] 34) := ⟨_, rfl⟩
              have fW : Fr (fun _ => False) wz W1 := by rw [hW1]; exact (Fr.refl _ wz).alloc _
              have fW1 : Fr (fun b => b = p) wb W1 := fzW.trans fW (fun _ _ q => q.elim)
              have hm1 : MsP W1 (.slice (some ⟨wz.heap.size, 0, none⟩) 2 2) [pagesOf x, setCh (pagesOf x) x.r] := by
               have o : Off wb (fun b => b = p) := one_off HPD.out.1 (by unfold besT; decide)
               rw [hW1] at fW1 ⊢
               exact MsP.two (Blk.new wz _ _) (HL.out.1.1.keep fW1 (HL.out.1.2.off o (.inr (.inl rfl)))) (HL.out.1.2.keep fW1 (HL.out.1.2.off o (.inr (.inl rfl)))) (HL.out.2.1.keep fW1 (HL.out.2.2.off o (.inr (.inl rfl)))) (HL.out.2.2.keep fW1 (HL.out.2.2.off o (.inr (.inl rfl))))
              have hrun : (wz.alloc (.cells #[.slice (some ⟨pb, poff, none⟩) N pc, .slice (some ⟨qb, qoff, none⟩) N qc] 34)) = W1 := hW1.symm
              refine anyH_value 5 105 (.slice (some ⟨wz.heap.size, 0, none⟩) 2 2) W1 (by kernel_rfl) rfl rfl (by rfl) (by rw [hW1]; exact (run_pgs2 (.tmp 100) (.tmp 104) rfl rfl rfl)) (HSS.out W1 fW1) ?_
              (simp only [sA, sB, sC])
              refine anyH_tk 8 10 ((.slice (some ⟨wz.heap.size, 0, none⟩) 2 2)) rfl rfl (.inl ⟨by rfl, fun w'' hS => by go_simp⟩) (HSS.out W1 fW1) ?_
              (simp only [sA, sB, sC])
              refine anyH_tk 9 11 (.bool true) rfl rfl (.inl ⟨by rfl, fun w'' hS => by go_simp⟩) (HSS.out W1 fW1) ?_
              (simp only [sA, sB, sC])
              refine wpAnyH_done (by kernel_rfl) ?_ _
              have HE : Hid (LvQ w W1 B g z N (K + 30) (.slice (some ⟨wz.heap.size, 0, none⟩) 2 2) [pagesOf x, setCh (pagesOf x) x.r]) := Lib.hid ⟨hm1, ⟨PP, _, (hPz.new fW).2.1, HAF.out.1, HAF.out.2⟩, HFW.out.trans fW1 (fun b _ e => by rw [e]; exact HBP.out), HLN.out⟩
              clear hS0 fd hPd hW1 fW fW1 hm1 hPz fz fzW hrun
              go_wp2_with fail
              go_ret2
              exact ⟨_, _, rfl, HE.out⟩
      have b3 : (kd == 3) = false := by simp [e3]
      by_cases e4 : kd = 4
      · have b4 : (kd == 4) = true := by simp [e4]
        obtain ⟨hR, hrt⟩ := HZ.out.1.ref
        obtain ⟨hR1, f1, z1, hs1⟩ := hR.clear
        obtain ⟨v1, hv1⟩ := Option.isSome_iff_exists.1 hs1
        obtain ⟨W1, hW1⟩ : ∃ W1, W1 = WZ.setCell ⟨r, 1, none⟩ (.slice none 0 0) := ⟨_, rfl⟩
        rw [← hW1] at hR1 f1
        obtain ⟨hS1, fB1⟩ := hrt W1 _ _ _ hR1 f1
        obtain ⟨S, hA, hO, hto⟩ := hS1.pool
        have HG := Lib.hid (pa_abort hA HK.out.1)
        have hr : x.aborted.r = [] := PX.r_nil rfl
        have HTO := Lib.hid (And.intro hto (And.intro hr (HZ.out.2.1.trans fB1 (fun _ _ q => q))))
        clear hR hrt hR1 f1 hs1 hS1 fB1 hA hO hto e1 e2 e3 e4 hr
        go_upto_region 28 with fail
        rw [← hW1]
        clear hW1 z1 hv1
        go_wp2_with fail
        refine HG.out.mono ?_
        rintro en wa ⟨rfl, hT⟩
        obtain ⟨hS2, fB, _⟩ := HTO.out.1 wa _ hT rfl
        have HD := Lib.hid (And.intro hS2 fB)
        clear hT hS2 fB HG hc0 hp0
        go_wp2_with fail
        refine ⟨⟨k + 1, x.aborted, M, by norm_cast, by omega, Lib.hid ⟨by rw [HTO.out.2.1]; exact HD.out.1, HK.out.1.aborted.mono (by omega), HK.out.2.1, HK.out.2.2.1, by omega⟩, Lib.hid (HTO.out.2.2.trans HD.out.2 (fun _ _ q => q))⟩, ?_⟩
        simp only [intOf]
        omega
      have b4 : (kd == 4) = false := by simp [e4]
      by_cases e5 : kd = 5
      · have b5 : (kd == 5) = true := by simp [e5]
        by_cases h0 : x.m = 0
        · obtain ⟨S, hA, hO, hto⟩ := HZ.out.1.pool
          have hsub := hA.sub
          have hpin := (hA.p_in).1
          obtain ⟨E, hE⟩ : ∃ E : Int, E = if x.ckOk then 0 else 10 := ⟨_, rfl⟩
          have HG := Lib.hid (pa_ckpt_go hA HK.out.1 (by omega) h0)
          rw [← hE] at HG
          have HTO := Lib.hid (And.intro hto (And.intro hO (And.intro hsub (And.intro hE hpin))))
          clear hA hO hto hsub hpin hE h0 e1 e2 e3 e4 e5
          go_wp2_with fail
          refine HG.out.mono ?_
          rintro en wa ⟨rfl, oT, oF⟩
          clear HG hc0
          by_cases hc : x.ckOk = true
          · obtain rfl : E = 0 := by rw [HTO.out.2.2.2.1, if_pos hc]
            obtain ⟨c1, c2, c3, c4, c5⟩ := ckpt_ok HK.out.1 (by omega) hc
            obtain ⟨hS2, fB, _⟩ := HTO.out.1 wa _ (oT hc) c5
            obtain ⟨hR, hrt⟩ := hS2.ref
            have HRS := Lib.hid hR.settle
            have HD := Lib.hid (And.intro hrt (And.intro c1 (And.intro c2 (And.intro c3 (And.intro c4 (And.intro c5 fB))))))
            clear c1 c2 c3 c4 c5 hS2 fB hR hrt oT oF hc hp0
            go_wp2_with fail
            refine HRS.out.mono ?_
            rintro en wb ⟨rfl, hRb, fb⟩
            obtain ⟨hS3, fB3⟩ := HD.out.1 wb _ _ _ hRb fb
            have HE := Lib.hid (And.intro hS3 fB3)
            clear hRb fb hS3 fB3 HRS
            go_wp2_with fail
            refine ⟨⟨k + 1, x.ckpt, M, by norm_cast, by omega, Lib.hid ⟨by rw [HD.out.2.2.1, HD.out.2.2.2.1]; exact HE.out.1, HD.out.2.1.mono (by omega), HD.out.2.2.2.2.1.trans HK.out.2.1, HD.out.2.2.2.2.2.1.trans HK.out.2.2.1, by omega⟩, Lib.hid ((HZ.out.2.1.trans HD.out.2.2.2.2.2.2 (fun _ _ q => q)).trans HE.out.2 (fun _ _ q => q))⟩, ?_⟩
            simp only [intOf]
            omega
          · rw [Bool.not_eq_true] at hc
            obtain rfl : E = 10 := by rw [HTO.out.2.2.2.1, if_neg (by rw [hc]; decide)]
            obtain ⟨⟨zz, frr, lb, M1, M2, vv, PP, hPD⟩, fS, fB⟩ := (oF hc).dead (fun b q => (HTO.out.2.2.1 b q).1)
            have hn1 := HZ.out.2.2.2.2.off HTO.out.2.1 (.inr (.inl rfl))
            obtain ⟨csr, hrb⟩ := (HZ.out.1.ref.1.stay fS HTO.out.2.1).blk
            have hrp : r ≠ p := fun e => absurd (blk_type (e ▸ hrb) hPD.1) (by decide)
            have hrS : ¬ S r := by obtain ⟨_, q⟩ := HZ.out.1.ref.1.blk; exact HTO.out.2.1 r _ _ q (.inl rfl)
            have hq0 : wa.cell? ⟨r, 0, none⟩ = some (.slice (some ⟨pb, poff, none⟩) N pc) := (fS.cell (World.block_lt_of_cell? WZ _ hp0) hrS).trans hp0
            have HAF : Hid (AfL x.ckpt.d z N (K + 30) [pagesOf x] ∧ x.ckpt.d.most 1000000) := Lib.hid ⟨by
             have q := AfP.ckx HK.out.1 (by have := HK.out.1.life.cK; omega) hc
             have q9 := AfL.of_one (K' := K + 30) q (by omega) (m := pagesOf x) rfl
             rw [HK.out.2.1, HK.out.2.2.1] at q9
             exact q9, HK.out.1.ck_most⟩
            have HPD := Lib.hid hPD
            have HL := Lib.hid (And.intro (HZ.out.2.2.2.1.keep fS hn1) (HZ.out.2.2.2.2.keep fS hn1))
            have HFW := Lib.hid (HZ.out.2.1.trans fB (fun _ _ q => q))
            have HBP := Lib.hid (HTO.out.2.2.1 p HTO.out.2.2.2.2).1
            have HSS : Hid (∀ W', Fr (fun b => b = p) wa W' → W'.cell? ⟨r, 0, none⟩ = some (.slice (some ⟨pb, poff, none⟩) N pc)) := Lib.hid fun W' f => (f.cell (World.block_lt_of_cell? wa _ hq0) hrp).trans hq0
            clear hPD fS fB oT oF hc hn1 hrb hrp hrS hp0
            go_upto_region 40 with fail
            clear hq0
            have HLN : Hid (∀ m ∈ [pagesOf x], m.length = N) := Lib.hid (fun m hm => by
             simp only [List.mem_cons, List.not_mem_nil, or_false] at hm
             rw [hm, pagesOf_len, HK.out.2.1])
            (try simp only [Act.put, List.setIfInBounds_toArray, List.set_cons_zero, List.set_cons_succ])
            have fd : Fr (fun _ => False) wa wa.drew := (Fr.refl (fun _ => False) wa).drew
            refine wp_region_held_drew (S := fun w' => w'.cell? ⟨r, 0, none⟩ = some (.slice (some ⟨pb, poff, none⟩) N pc)) (by kernel_rfl) (HSS.out wa.drew (fd.mono (fun _ _ q => q.elim))) (fun hS0 => ?_)
            refine anyH_tk 0 159 (.pointer (some ⟨r, 0, none⟩)) rfl rfl (.inl ⟨by rfl, fun w'' hS => by go_simp⟩) hS0 ?_
            (simp only [sA, sB, sC])
            refine anyH_tk 1 160 (.pointer (some ⟨r, 0, none⟩)) rfl rfl (.inl ⟨by rfl, fun w'' hS => by go_simp⟩) hS0 ?_
            (simp only [sA, sB, sC])
            refine anyH_tk 2 161 (.pointer (some ⟨r, 0, none⟩)) rfl rfl (.inl ⟨by rfl, fun w'' hS => by go_simp⟩) hS0 ?_
            (simp only [sA, sB, sC])
            refine anyH_tk 3 162 (.slice (some ⟨pb, poff, none⟩) N pc) rfl rfl (.inl ⟨by rfl, fun w'' hS => by have q0 : w''.cell? ⟨r, 0, none⟩ = some (.slice (some ⟨pb, poff, none⟩) N pc) := hS; go_simp⟩) hS0 ?_
            (simp only [sA, sB, sC])
            refine anyH_tk 5 164 (.pointer (some ⟨p, 0, none⟩)) rfl rfl (.inl ⟨by rfl, fun w'' hS => by go_simp⟩) hS0 ?_
            (simp only [sA, sB, sC])
            have hPd := HPD.out.new fd
            refine anyH_alt 4 6 (by kernel_rfl) ?_ ?_
            · refine wpOp_value 163 (.slice (some ⟨wa.drew.heap.size, 0, none⟩) 1 1) rfl rfl (by rfl) (run_pgs1 (.tmp 162) rfl rfl) ⟨HSS.out _ ((fd.alloc _).mono (fun _ _ q => q.elim)), ?_⟩
              (simp only [sA, sB, sC])
              obtain ⟨W1, hW1⟩ : ∃ W1, W1 = wa.drew.alloc (.cells #[.slice (some ⟨pb, poff, none⟩) N pc] 34) := ⟨_, rfl⟩
              have fW : Fr (fun _ => False) wa W1 := by rw [hW1]; exact fd.alloc _
              have hm1 : MsP W1 (.slice (some ⟨wa.drew.heap.size, 0, none⟩) 1 1) [pagesOf x] := by rw [hW1]; exact MsP.one (Blk.new wa.drew _ _) (HL.out.1.keep (fd.alloc _) (fun _ _ q => q)) (HL.out.2.keep (fd.alloc _) (fun _ _ q => q))
              rw [← hW1]
              refine anyH_enter 6 165 (f := 38) (args := #[.pointer (some ⟨p, 0, none⟩)]) (by kernel_rfl) rfl rfl (by rfl) (by go_simp) ?_
              refine (dead_any6 (HPD.out.new fW)).mono ?_
              rintro en wz ⟨rfl, hPz, fz⟩
              have fzW : Fr (fun b => b = p) wa wz := (fW.mono (fun _ _ q => q.elim)).trans fz (fun _ _ q => q)
              refine ⟨_, rfl, HSS.out wz fzW, ?_⟩
              (simp only [sA, sB, sC])
              refine anyH_tk 7 10 ((.slice (some ⟨wa.drew.heap.size, 0, none⟩) 1 1)) rfl rfl (.inl ⟨by rfl, fun w'' hS => by go_simp⟩) (HSS.out wz fzW) ?_
              (simp only [sA, sB, sC])
              refine anyH_tk 8 11 (.bool true) rfl rfl (.inl ⟨by rfl, fun w'' hS => by go_simp⟩) (HSS.out wz fzW) ?_
              (simp only [sA, sB, sC])
              refine wpAnyH_done (by kernel_rfl) ?_ _
              have HE : Hid (LvQ w wz B g z N (K + 30) (.slice (some ⟨wa.drew.heap.size, 0, none⟩) 1 1) [pagesOf x]) := Lib.hid ⟨hm1.keep fz (one_off (HPD.out.new fW).1 (by unfold besT; decide)), ⟨PP, _, hPz.2.1, HAF.out.1, HAF.out.2⟩, HFW.out.trans fzW (fun b _ e => by rw [e]; exact HBP.out), HLN.out⟩
              clear hS0 fd hPd hW1 fW hm1 hPz fz fzW
              go_wp2_with fail
              go_ret2
              exact ⟨_, _, rfl, HE.out⟩
            · refine wpOp_call 165 (f := 38) (args := #[.pointer (some ⟨p, 0, none⟩)]) rfl rfl (by rfl) (by go_simp) ?_
              refine (dead_any6 hPd).mono ?_
              rintro en wz ⟨rfl, hPz, fz⟩
              have fzW : Fr (fun b => b = p) wa wz := (fd.mono (fun _ _ q => q.elim)).trans fz (fun _ _ q => q)
              refine ⟨_, rfl, HSS.out wz fzW, ?_⟩
              (simp only [sA, sB, sC])
              obtain ⟨W1, hW1⟩ : ∃ W1, W1 = wz.alloc (.cells #[.slice (some ⟨pb, poff, none⟩) N pc] 34) := ⟨_, rfl⟩
              have fW : Fr (fun _ => False) wz W1 := by rw [hW1]; exact (Fr.refl _ wz).alloc _
              have fW1 : Fr (fun b => b = p) wa W1 := fzW.trans fW (fun _ _ q => q.elim)
              have hm1 : MsP W1 (.slice (some ⟨wz.heap.size, 0, none⟩) 1 1) [pagesOf x] := by
               have o : Off wa (fun b => b = p) := one_off HPD.out.1 (by unfold besT; decide)
               rw [hW1] at fW1 ⊢
               exact MsP.one (Blk.new wz _ _) (HL.out.1.keep fW1 (HL.out.2.off o (.inr (.inl rfl)))) (HL.out.2.keep fW1 (HL.out.2.off o (.inr (.inl rfl))))
              have hrun : (wz.alloc (.cells #[.slice (some ⟨pb, poff, none⟩) N pc] 34)) = W1 := hW1.symm
              refine anyH_value 4 163 (.slice (some ⟨wz.heap.size, 0, none⟩) 1 1) W1 (by kernel_rfl) rfl rfl (by rfl) (by rw [hW1]; exact (run_pgs1 (.tmp 162) rfl rfl)) (HSS.out W1 fW1) ?_
              (simp only [sA, sB, sC])
              refine anyH_tk 7 10 ((.slice (some ⟨wz.heap.size, 0, none⟩) 1 1)) rfl rfl (.inl ⟨by rfl, fun w'' hS => by go_simp⟩) (HSS.out W1 fW1) ?_
              (simp only [sA, sB, sC])
              refine anyH_tk 8 11 (.bool true) rfl rfl (.inl ⟨by rfl, fun w'' hS => by go_simp⟩) (HSS.out W1 fW1) ?_
              (simp only [sA, sB, sC])
              refine wpAnyH_done (by kernel_rfl) ?_ _
              have HE : Hid (LvQ w W1 B g z N (K + 30) (.slice (some ⟨wz.heap.size, 0, none⟩) 1 1) [pagesOf x]) := Lib.hid ⟨hm1, ⟨PP, _, (hPz.new fW).2.1, HAF.out.1, HAF.out.2⟩, HFW.out.trans fW1 (fun b _ e => by rw [e]; exact HBP.out), HLN.out⟩
              clear hS0 fd hPd hW1 fW fW1 hm1 hPz fz fzW hrun
              go_wp2_with fail
              go_ret2
              exact ⟨_, _, rfl, HE.out⟩
        · obtain ⟨S, hA, hO, hto⟩ := HZ.out.1.pool
          have HG := Lib.hid (pa_ckpt_busy hA HK.out.1 (by omega) (by omega))
          have HTO := Lib.hid hto
          clear hA hO hto h0 e1 e2 e3 e4 e5
          go_wp2_with fail
          refine HG.out.mono ?_
          rintro en wa ⟨rfl, hT⟩
          obtain ⟨hS2, fB, _⟩ := HTO.out wa _ hT rfl
          have HD := Lib.hid (And.intro hS2 fB)
          clear hT hS2 fB HG hc0 hp0
          go_wp2_with fail
          refine ⟨⟨k + 1, x, M, by norm_cast, by omega, Lib.hid ⟨HD.out.1, HK.out.1.mono (by omega), HK.out.2.1, HK.out.2.2.1, by omega⟩, Lib.hid (HZ.out.2.1.trans HD.out.2 (fun _ _ q => q))⟩, ?_⟩
          simp only [intOf]
          omega
      have b5 : (kd == 5) = false := by simp [e5]
      by_cases e7 : kd = 7
      · have b7 : (kd == 7) = true := by simp [e7]
        obtain ⟨bs, hbs⟩ : ∃ bs, bs = wr.heap.size := ⟨_, rfl⟩
        rw [← hbs] at HZ HCC hc0
        rw [← hbs]
        clear hbs HF HCC e1 e2 e3 e4 e5 e7
        go_wp2_with fail
        go_loopw [20] (fun jv wr => ∃ (j : Nat) (y : PX) (M' : Nat), jv = .int .i64 j ∧ j ≤ 80 ∧ Hid (ST wr B p g r y (pagesOf y) y.r M' (fr : Nat) ∧ y.Ok (K + 2 + k) ∧ y.N = N ∧ y.z = z ∧ M' ≤ M + j) ∧ Hid (Blk wr bs 48 #[.int .i64 kd, .int .i64 sl, .int .i64 nx, .slice As ns cs]) ∧ Hid (Fr (fun b => B ≤ b) w wr)) (fun jv _ => 80 - (intOf jv).toNat)
        case atStart => exact ⟨0, x, M, rfl, by omega, Lib.hid ⟨HZ.out.1, HK.out.1, HK.out.2.1, HK.out.2.2.1, by omega⟩, Lib.hid HZ.out.2.2.1, Lib.hid HZ.out.2.1⟩
        case round =>
         clear HZ HK hc0 hp0
         obtain ⟨j, y, M', rfl, hj, HI, HB8, HF⟩ := hrel
         obtain ⟨hc0, hc1, hc2, hc3⟩ := step_cells HB8.out
         have hM8 := HI.out.2.2.2.2
         have hN8' := HI.out.2.2.1
         by_cases jn : (j : Int) < nx
         · by_cases j80 : (j : Int) < 80
           · obtain ⟨na, hna⟩ : ∃ na, IntKind.i64.wrap (sl + (j : Int)) = na := ⟨_, rfl⟩
             have HKX := Lib.hid HI.out.2.1
             by_cases hin : inR y na
             · obtain ⟨m, rfl⟩ : ∃ m : Nat, na = m := ⟨na.toNat, by unfold inR at hin; omega⟩
               have hmN : m < y.N := by unfold inR at hin; omega
               obtain ⟨E, hE⟩ : ∃ E, E = y.inE (m : Int) := ⟨_, rfl⟩
               obtain rfl : E = 0 := by rw [hE]; unfold PX.inE; rw [if_pos hin]
               have HIN := Lib.hid hmN
               have hput : y.putZ (m : Int) pg = y.putted m pg := by unfold PX.putZ; rw [if_pos hin]; rfl
               have HPT := Lib.hid hput
               have HSZ := Lib.hid (And.intro hc1 hc3)
               clear hin hmN hput hc0 hc1 hc3
               go_wp2_with fail
               (try simp only [Act.put, List.setIfInBounds_toArray, List.set_cons_zero, List.set_cons_succ])
               refine wp_region_held_drew (S := fun w' => w'.cell? ⟨bs, 1, none⟩ = some (.int .i64 sl) ∧ w'.cell? ⟨bs, 3, none⟩ = some (.slice As ns cs)) (by kernel_rfl) HSZ.out (fun hS0 => ?_)
               refine anyH_tk 0 138 (.pointer (some ⟨p, 0, none⟩)) rfl rfl (.inl ⟨by rfl, fun w'' hS => by go_simp⟩) hS0 ?_
               (simp only [sA, sB, sC])
               refine anyH_tk 1 139 (.pointer (some ⟨bs, 1, none⟩)) rfl rfl (.inl ⟨by rfl, fun w'' hS => by go_simp⟩) hS0 ?_
               (simp only [sA, sB, sC])
               refine anyH_tk 2 140 (.int .i64 sl) rfl rfl (.inl ⟨by rfl, fun w'' hS => by have q0 := hS.1; go_simp⟩) hS0 ?_
               (simp only [sA, sB, sC])
               refine anyH_tk 3 141 (.int .i64 (j : Nat)) rfl rfl (.inl ⟨by rfl, fun w'' hS => by go_simp⟩) hS0 ?_
               (simp only [sA, sB, sC])
               refine anyH_tk 4 142 (.int .i64 (m : Nat)) rfl rfl (.inl ⟨by rfl, fun w'' hS => by rw [← hna]; go_simp⟩) hS0 ?_
               (simp only [sA, sB, sC])
               refine anyH_tk 5 143 (.pointer (some ⟨bs, 3, none⟩)) rfl rfl (.inl ⟨by rfl, fun w'' hS => by go_simp⟩) hS0 ?_
               (simp only [sA, sB, sC])
               refine anyH_tk 6 144 (.slice As ns cs) rfl rfl (.inl ⟨by rfl, fun w'' hS => by have q0 := hS.2; go_simp⟩) hS0 ?_
               (simp only [sA, sB, sC])
               refine anyH_enter 7 145 (f := 20) (args := #[.slice As ns cs]) (by kernel_rfl) rfl rfl (by rfl) (by go_simp) ?_
               refine (HPA.out.1 wr.drew HF.out.drew).mono ?_
               rintro en wa ⟨rfl, fa⟩
               have fa' : Fr (fun _ => False) wr wa := ((Fr.refl (fun _ => False) wr).drew).trans fa (fun _ _ q => q)
               have hba := Blk.keep HB8.out fa' (fun q => q)
               refine ⟨_, rfl, ⟨(step_cells hba).2.1, (step_cells hba).2.2.2⟩, ?_⟩
               (simp only [sA, sB, sC])
               obtain ⟨S, hA, hO, hto⟩ := (HI.out.1.new fa').pool
               have HPU := Lib.hid (pa_putY hA HKX.out (m : Nat) HPA.out.2)
               rw [← hE] at HPU
               refine anyH_enter 8 146 (f := 19) (args := #[.pointer (some ⟨p, 0, none⟩), .int .i64 (m : Nat), av pg]) (by kernel_rfl) rfl rfl (by rfl) (by go_simp) ?_
               refine HPU.out.mono ?_
               rintro en wb ⟨rfl, hT⟩
               have hx2 : (y.putZ (m : Nat) pg).z = y.z := by unfold PX.putZ; split <;> rfl
               obtain ⟨hSb, fB, fS⟩ := hto wb _ hT hx2
               have hbb := hO.blk fS hba (.inr (.inr (.inr (.inr (.inr rfl)))))
               have hcb : wb.cell? ⟨bs, 1, none⟩ = some (.int .i64 sl) ∧ wb.cell? ⟨bs, 3, none⟩ = some (.slice As ns cs) := ⟨(step_cells hbb).2.1, (step_cells hbb).2.2.2⟩
               refine ⟨_, rfl, hcb, ?_⟩
               (simp only [sA, sB, sC])
               refine anyH_tk 9 147 (.bool true) rfl rfl (.inl ⟨by rfl, fun w'' hS => by go_simp⟩) hcb ?_
               (simp only [sA, sB, sC])
               have fa0 := fa'
               refine wpAnyH_done (by kernel_rfl) ?_ _
               clear hS0 fa fa' hA hto hT fS hba hO HPU hE hx2
               rw [HPT.out] at hSb
               have HSY := Lib.hid hcb
               have HY := Lib.hid (And.intro hSb (And.intro (HF.out.trans (fa0.mono (fun _ _ q => q.elim) |>.trans fB (fun _ _ q => q)) (fun _ _ q => q)) hbb))
               clear hSb fB hbb hcb fa0 hc2
               go_wp2_with fail
               (try simp only [Act.put, List.setIfInBounds_toArray, List.set_cons_zero, List.set_cons_succ])
               refine wp_region_held_drew (S := fun w' => w'.cell? ⟨bs, 1, none⟩ = some (.int .i64 sl) ∧ w'.cell? ⟨bs, 3, none⟩ = some (.slice As ns cs)) (by kernel_rfl) HSY.out (fun hS0 => ?_)
               refine anyH_tk 0 148 (.pointer (some ⟨r, 0, none⟩)) rfl rfl (.inl ⟨by rfl, fun w'' hS => by go_simp⟩) hS0 ?_
               (simp only [sA, sB, sC])
               refine anyH_tk 1 149 (.pointer (some ⟨bs, 1, none⟩)) rfl rfl (.inl ⟨by rfl, fun w'' hS => by go_simp⟩) hS0 ?_
               (simp only [sA, sB, sC])
               refine anyH_tk 2 150 (.int .i64 sl) rfl rfl (.inl ⟨by rfl, fun w'' hS => by have q0 := hS.1; go_simp⟩) hS0 ?_
               (simp only [sA, sB, sC])
               refine anyH_tk 3 151 (.int .i64 (j : Nat)) rfl rfl (.inl ⟨by rfl, fun w'' hS => by go_simp⟩) hS0 ?_
               (simp only [sA, sB, sC])
               refine anyH_tk 4 152 (.int .i64 (m : Nat)) rfl rfl (.inl ⟨by rfl, fun w'' hS => by rw [← hna]; go_simp⟩) hS0 ?_
               (simp only [sA, sB, sC])
               refine anyH_tk 5 153 (.pointer (some ⟨bs, 3, none⟩)) rfl rfl (.inl ⟨by rfl, fun w'' hS => by go_simp⟩) hS0 ?_
               (simp only [sA, sB, sC])
               refine anyH_tk 6 154 (.slice As ns cs) rfl rfl (.inl ⟨by rfl, fun w'' hS => by have q0 := hS.2; go_simp⟩) hS0 ?_
               (simp only [sA, sB, sC])
               refine anyH_enter 7 155 (f := 20) (args := #[.slice As ns cs]) (by kernel_rfl) rfl rfl (by rfl) (by go_simp) ?_
               refine (HPA.out.1 wb.drew HY.out.2.1.drew).mono ?_
               rintro en wc ⟨rfl, fc⟩
               have fc' : Fr (fun _ => False) wb wc := ((Fr.refl (fun _ => False) wb).drew).trans fc (fun _ _ q => q)
               have hbc := Blk.keep HY.out.2.2 fc' (fun q => q)
               refine ⟨_, rfl, ⟨(step_cells hbc).2.1, (step_cells hbc).2.2.2⟩, ?_⟩
               (simp only [sA, sB, sC])
               obtain ⟨hRc, hrt⟩ := (HY.out.1.new fc').ref
               have HRU := Lib.hid (rput6_any hRc (by omega) (by omega) (by rw [PX.r_len]; have := PX.m_le (x := y); omega) (pagesOf_at (x := y) HIN.out) HPA.out.2 (HKX.out.C_len HIN.out))
               refine anyH_enter 8 156 (f := 36) (args := #[.pointer (some ⟨r, 0, none⟩), .int .i64 (m : Nat), av pg]) (by kernel_rfl) rfl rfl (by rfl) (by go_simp) ?_
               refine HRU.out.mono ?_
               rintro en wd ⟨rfl, hRd, fd⟩
               obtain ⟨hSd, fBd⟩ := hrt wd _ _ _ hRd fd
               have hbd := ref_blk hRc fd hbc (by decide)
               refine ⟨_, rfl, ⟨(step_cells hbd).2.1, (step_cells hbd).2.2.2⟩, ?_⟩
               (simp only [sA, sB, sC])
               refine wpAnyH_done (by kernel_rfl) ?_ _
               obtain ⟨t1, t2, t3, t4, t5⟩ := putted_ok HKX.out HIN.out HPA.out.2
               have HD := Lib.hid (And.intro hSd (And.intro ((HY.out.2.1.trans (fc'.mono (fun _ _ q => q.elim)) (fun _ _ q => q)).trans fBd (fun _ _ q => q)) (And.intro t1 (And.intro t2 (And.intro t3 (And.intro t4 (And.intro t5 hbd)))))))
               clear hS0 fc fc' hbc hRc hrt hRd fd hSd fBd hbd t1 t2 t3 t4 t5 HRU hna
               go_wp2_with fail
               refine ⟨⟨j + 1, y.putted m pg, M' + 1, by norm_cast, by omega, Lib.hid ⟨by rw [HD.out.2.2.2.2.2.1, HD.out.2.2.2.2.2.2.1]; exact HD.out.1, HD.out.2.2.1, HD.out.2.2.2.2.1.trans HI.out.2.2.1, HD.out.2.2.2.1.trans HI.out.2.2.2.1, by omega⟩, Lib.hid HD.out.2.2.2.2.2.2.2, Lib.hid HD.out.2.1⟩, ?_⟩
               simp only [intOf]
               omega
             · obtain ⟨E, hE⟩ : ∃ E, E = y.inE na := ⟨_, rfl⟩
               obtain rfl : E = 2 := by rw [hE]; unfold PX.inE; rw [if_neg hin]
               have hput : y.putZ na pg = y := by unfold PX.putZ; rw [if_neg hin]
               have HPT := Lib.hid hput
               have HSZ := Lib.hid (And.intro hc1 hc3)
               clear hin hput hc0 hc1 hc3
               go_wp2_with fail
               (try simp only [Act.put, List.setIfInBounds_toArray, List.set_cons_zero, List.set_cons_succ])
               refine wp_region_held_drew (S := fun w' => w'.cell? ⟨bs, 1, none⟩ = some (.int .i64 sl) ∧ w'.cell? ⟨bs, 3, none⟩ = some (.slice As ns cs)) (by kernel_rfl) HSZ.out (fun hS0 => ?_)
               refine anyH_tk 0 138 (.pointer (some ⟨p, 0, none⟩)) rfl rfl (.inl ⟨by rfl, fun w'' hS => by go_simp⟩) hS0 ?_
               (simp only [sA, sB, sC])
               refine anyH_tk 1 139 (.pointer (some ⟨bs, 1, none⟩)) rfl rfl (.inl ⟨by rfl, fun w'' hS => by go_simp⟩) hS0 ?_
               (simp only [sA, sB, sC])
               refine anyH_tk 2 140 (.int .i64 sl) rfl rfl (.inl ⟨by rfl, fun w'' hS => by have q0 := hS.1; go_simp⟩) hS0 ?_
               (simp only [sA, sB, sC])
               refine anyH_tk 3 141 (.int .i64 (j : Nat)) rfl rfl (.inl ⟨by rfl, fun w'' hS => by go_simp⟩) hS0 ?_
               (simp only [sA, sB, sC])
               refine anyH_tk 4 142 (.int .i64 na) rfl rfl (.inl ⟨by rfl, fun w'' hS => by rw [← hna]; go_simp⟩) hS0 ?_
               (simp only [sA, sB, sC])
               refine anyH_tk 5 143 (.pointer (some ⟨bs, 3, none⟩)) rfl rfl (.inl ⟨by rfl, fun w'' hS => by go_simp⟩) hS0 ?_
               (simp only [sA, sB, sC])
               refine anyH_tk 6 144 (.slice As ns cs) rfl rfl (.inl ⟨by rfl, fun w'' hS => by have q0 := hS.2; go_simp⟩) hS0 ?_
               (simp only [sA, sB, sC])
               refine anyH_enter 7 145 (f := 20) (args := #[.slice As ns cs]) (by kernel_rfl) rfl rfl (by rfl) (by go_simp) ?_
               refine (HPA.out.1 wr.drew HF.out.drew).mono ?_
               rintro en wa ⟨rfl, fa⟩
               have fa' : Fr (fun _ => False) wr wa := ((Fr.refl (fun _ => False) wr).drew).trans fa (fun _ _ q => q)
               have hba := Blk.keep HB8.out fa' (fun q => q)
               refine ⟨_, rfl, ⟨(step_cells hba).2.1, (step_cells hba).2.2.2⟩, ?_⟩
               (simp only [sA, sB, sC])
               obtain ⟨S, hA, hO, hto⟩ := (HI.out.1.new fa').pool
               have HPU := Lib.hid (pa_putY hA HKX.out na HPA.out.2)
               rw [← hE] at HPU
               refine anyH_enter 8 146 (f := 19) (args := #[.pointer (some ⟨p, 0, none⟩), .int .i64 na, av pg]) (by kernel_rfl) rfl rfl (by rfl) (by go_simp) ?_
               refine HPU.out.mono ?_
               rintro en wb ⟨rfl, hT⟩
               have hx2 : (y.putZ na pg).z = y.z := by unfold PX.putZ; split <;> rfl
               obtain ⟨hSb, fB, fS⟩ := hto wb _ hT hx2
               have hbb := hO.blk fS hba (.inr (.inr (.inr (.inr (.inr rfl)))))
               have hcb : wb.cell? ⟨bs, 1, none⟩ = some (.int .i64 sl) ∧ wb.cell? ⟨bs, 3, none⟩ = some (.slice As ns cs) := ⟨(step_cells hbb).2.1, (step_cells hbb).2.2.2⟩
               refine ⟨_, rfl, hcb, ?_⟩
               (simp only [sA, sB, sC])
               clear hE
               refine anyH_tk 9 147 (.bool false) rfl rfl (.inl ⟨by rfl, fun w'' hS => by go_simp⟩) hcb ?_
               (simp only [sA, sB, sC])
               have fa0 := fa'
               refine wpAnyH_done (by kernel_rfl) ?_ _
               rw [HPT.out] at hSb
               have HD := Lib.hid (And.intro hSb (And.intro (HF.out.trans (fa0.mono (fun _ _ q => q.elim) |>.trans fB (fun _ _ q => q)) (fun _ _ q => q)) hbb))
               clear hS0 fa fa' hA hto hT fS hba hO HPU hx2 hSb fB hbb hcb fa0 hc2 hna
               go_wp2_with fail
               refine ⟨⟨j + 1, y, M', by norm_cast, by omega, Lib.hid ⟨HD.out.1, HI.out.2.1, HI.out.2.2.1, HI.out.2.2.2.1, by omega⟩, Lib.hid HD.out.2.2, Lib.hid HD.out.2.1⟩, ?_⟩
               simp only [intOf]
               omega
           · clear hc0 hc1 hc3
             go_wp2_with fail
             refine ⟨⟨k + 1, y, M', by norm_cast, by omega, Lib.hid ⟨HI.out.1, HI.out.2.1.mono (by omega), HI.out.2.2.1, HI.out.2.2.2.1, by omega⟩, Lib.hid HF.out⟩, ?_⟩
             simp only [intOf]
             omega
         · clear hc0 hc1 hc3
           go_wp2_with fail
           refine ⟨⟨k + 1, y, M', by norm_cast, by omega, Lib.hid ⟨HI.out.1, HI.out.2.1.mono (by omega), HI.out.2.2.1, HI.out.2.2.2.1, by omega⟩, Lib.hid HF.out⟩, ?_⟩
           simp only [intOf]
           omega
      have b7 : (kd == 7) = false := by simp [e7]
      clear e1 e2 e3 e4 e5 e7
      go_wp2_with fail
      refine ⟨⟨k + 1, x, M, by norm_cast, by omega, Lib.hid ⟨HZ.out.1, HK.out.1.mono (by omega), HK.out.2.1, HK.out.2.2.1, by omega⟩, Lib.hid HZ.out.2.1⟩, ?_⟩
      simp only [intOf]
      omega
    · obtain rfl : n = k := by omega
      clear hlt
      obtain ⟨pb, poff, pc, hp0, hp1, hp2⟩ := (HI.out.1.ref.1).pages (by rw [pagesOf_len, HI.out.2.2.1]; omega)
      rw [pagesOf_len, HI.out.2.2.1] at hp0 hp1 hp2
      have HPP := Lib.hid (And.intro hp1 hp2)
      clear hp1 hp2
      go_wp2_with fail
      have fW : Fr (fun _ => False) wr (wr.alloc (.cells #[.slice (some ⟨pb, poff, none⟩) N pc] 34)) := (Fr.refl _ wr).alloc _
      obtain ⟨S, hA, _, _⟩ := HI.out.1.pool
      obtain ⟨_, _, _, _, P4, _, _, hd4, _⟩ := hA.parts
      obtain ⟨P5, hd5⟩ := hd4.new fW
      have hrest := HI.out.2.1.atRest
      rw [HI.out.2.2.1, HI.out.2.2.2.1] at hrest
      go_ret2
      exact ⟨_, [pagesOf x], rfl, MsP.one (Blk.new wr _ _) (HPP.out.1.new fW) (HPP.out.2.new fW), ⟨P5, _, hd5, AfL.of_one (AfP.rest (F := x.C) hrest (fun n hn => by
       have := HI.out.2.1.cdC n
       rw [HI.out.2.2.1, HI.out.2.2.2.1] at this
       exact this)) (by omega) (by unfold pagesOf; rw [HI.out.2.2.1]), rest_most HI.out.2.1.life.ri.vs⟩, HF.out.trans fW (fun _ _ q => q.elim), fun m hm => by rw [List.mem_singleton.1 hm, pagesOf_len]; exact HI.out.2.2.1⟩
end Go.Proofs.YtcnlgbjkjlbmbaaGreat

