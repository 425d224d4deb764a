/- couponlaw04: live. -/
import Derived.Test.YtobnfadcffhfdaaVaf
namespace Go.Proofs.Ytobnfadcffhfdaa
open Go.RowKit

theorem settle_dd {d : DS} {i : Nat} {ss : List (List UInt8)} (h : d.settles i ss = false) : (d.settle i ss).dd = true := by
  unfold DS.settles at h
  unfold DS.settle DS.flushed
  rw [h]
  unfold DS.alive at h
  show deadS _ _ _ = true
  simpa using h
theorem blk_type {w : World} {g : Nat} {t t' : TypeId} {cs cs' : Array Value} (h : Blk w g t cs) (h' : Blk w g t' cs') : t = t' := by
  unfold Blk at h h'
  rw [h] at h'
  injection h' with h'
  injection h'
theorem RcsV.zero {w : World} {base : Nat} {v : Value} {rs : List (List Chg)} (h : RcsV w base v rs) : RcsV w 0 v rs := by
  obtain ⟨vs, h1, h2, h3⟩ := h
  refine ⟨vs, ⟨h1.1, ?_⟩, h2, fun i u r hu hr => ⟨(h3 i u r hu hr).1, fun b hb => ⟨Nat.zero_le _, ((h3 i u r hu hr).2 b hb).2⟩⟩⟩
  rcases h1.2 with q | ⟨g, cap, cur, q1, _, q2⟩
  · exact .inl q
  · exact .inr ⟨g, cap, cur, q1, Nat.zero_le _, q2⟩
theorem own_blk {w : World} {base n size b : Nat} {e : TypeId} {v : Value} {xs : List Value} (h : w.ownsRow base e size v n xs) (hb : v.ownBlock = some b) : ∃ cs, Blk w b e cs := by
  rcases h.2 with ⟨q, _⟩ | ⟨g, cp, cs, q, _, hg, _⟩
  · rw [q] at hb
    cases hb
  · rw [q] at hb
    have h3 : g = b := by simpa [Value.ownBlock] using hb
    subst h3
    exact ⟨cs, hg⟩
theorem lay_manyN : ∀ (ss : List (List UInt8)) (d : DS) (i N : Nat), d.most N → 1 ≤ N → (d.lay i ss).most (N + ss.length)
  | [], _, _, _, h, _ => h
  | s :: ss, d, i, N, h, h1 => by
    have := lay_manyN ss (d.write i s) (i + 1) (N + 1) (write_most h h1) (by omega)
    rw [List.length_cons]
    rw [show N + (ss.length + 1) = N + 1 + ss.length by omega]
    exact this
theorem settle_manyN {d : DS} (h : ∀ j, d.vs j = []) (i : Nat) {ss : List (List UInt8)} (hl : ss.length ≤ 10000) : (d.settle i ss).most 1000000 := by
  have h1 := lay_manyN ss d i 1 (fun j => by rw [h j]; exact Nat.zero_le _) (Nat.le_refl _)
  intro j
  unfold DS.settle DS.flushed
  split
  · simp [DS.flush]
  · have := h1 j
    show ((d.lay i ss).vs j).length ≤ _
    omega
/-- append(append(nil, sure...), r). -/
theorem RcsV.more {w : World} {v : Value} {A : Option Addr} {k c : Nat} {rs : List (List Chg)} {r : List Chg} (h : RcsV w 0 v rs) (hu : RcV w (.slice A k c) r) (hub : ∀ b, (Value.slice A k c).ownBlock = some b → ∃ cs, Blk w b 84 cs) (hN : rs.length ≤ 1000) (ty ty' : TypeId) :
    ∃ A1 n1 c1 w1 A2 c2 w2, (Builtin.append_ #[49, 49] ty #[.slice none 0 0, v]).run Try.prog w = .ok (.slice A1 n1 c1) w1 ∧ (Builtin.append_ #[49, 49] ty' #[.slice A1 n1 c1, .slice (some ⟨w1.heap.size, 0, none⟩) 1 1]).run Try.prog (w1.alloc (.cells #[.slice A k c] 25)) = .ok (.slice A2 (rs.length + 1) c2) w2 ∧ RcsV w2 0 (.slice A2 (rs.length + 1) c2) (rs ++ [r]) ∧ Fr (fun _ => False) w w2 := by
  obtain ⟨v1, w1, hr1, hv1, f1, hb1⟩ := h.copy hN (Nat.zero_le _) ty
  obtain ⟨A1, c1, e1, _⟩ := hv1.form
  subst e1
  obtain ⟨v2, w2, hr2, hv2, f2⟩ := hv1.push (hu.keep f1 (fun _ _ q => q)) (fun b hb => ⟨Nat.zero_le _, by obtain ⟨cs, j⟩ := hub b hb; exact ⟨cs, j.keep f1 (fun q => q)⟩⟩) hN (Nat.zero_le _) ty'
  obtain ⟨A2, c2, e2, _⟩ := hv2.form
  rw [List.length_append] at e2
  have e2' : v2 = .slice A2 (rs.length + 1) c2 := e2
  subst e2'
  exact ⟨A1, _, c1, w1, A2, c2, w2, hr1, hr2, hv2, f1.trans f2 (fun i hi q => by have := hb1 i q; omega)⟩
/-- Lists of records, each a list of its own. -/
def MsV (w : World) (v : Value) (ms : List (List (List Chg))) : Prop := ∃ b cs, v = .slice (some ⟨b, 0, none⟩) ms.length ms.length ∧ ms.length ≤ 2 ∧ Blk w b 49 cs ∧ ∀ (i : Nat) (m : List (List Chg)), ms[i]? = some m → ∃ u, w.cell? ⟨b, i, none⟩ = some u ∧ RcsV w 0 u m
theorem MsV.one {w : World} {u : Value} {base : Nat} {m : List (List Chg)} {b : Nat} (hb : Blk w b 49 #[u]) (h : RcsV w base u m) : MsV w (.slice (some ⟨b, 0, none⟩) 1 1) [m] := by
  refine ⟨b, _, rfl, by simp, hb, fun i m' hm => ?_⟩
  have hi : i = 0 := by
    have := (List.getElem?_eq_some_iff.1 hm).1
    simp at this
    exact this
  subst hi
  have e : m = m' := by simpa using hm
  subst e
  exact ⟨u, by rw [hb.cell]; rfl, h.zero⟩
theorem MsV.two {w : World} {u u' : Value} {base base' : Nat} {m m' : List (List Chg)} {b : Nat} (hb : Blk w b 49 #[u, u']) (h : RcsV w base u m) (h' : RcsV w base' u' m') : MsV w (.slice (some ⟨b, 0, none⟩) 2 2) [m, m'] := by
  refine ⟨b, _, rfl, by simp, hb, fun i x hm => ?_⟩
  have hi : i < 2 := (List.getElem?_eq_some_iff.1 hm).1
  rcases (by omega : i = 0 ∨ i = 1) with rfl | rfl
  · have e : m = x := by simpa using hm
    subst e
    exact ⟨u, by rw [hb.cell]; rfl, h.zero⟩
  · have e : m' = x := by simpa using hm
    subst e
    exact ⟨u', by rw [hb.cell]; rfl, h'.zero⟩
theorem MsV.disk {w w' : World} {B g : Nat} {v : Value} {ms : List (List (List Chg))} {P : Nat → Prop} {d : DS} (h : MsV w v ms) (hd : DT w B g d P) (f : Fr P w w') : MsV w' v ms := by
  obtain ⟨b, cs, e, h2, hb, hm⟩ := h
  have hn : ¬ P b := fun q => by
    rcases hd.2 b _ _ q hb with e | e
    · exact absurd e (by decide)
    · exact absurd e (by decide)
  refine ⟨b, cs, e, h2, hb.keep f hn, fun i m hi => ?_⟩
  obtain ⟨u, h1, h2⟩ := hm i m hi
  exact ⟨u, (f.cell (World.block_lt_of_cell? w _ h1) hn).trans h1, h2.disk hd f⟩
theorem MsV.new {w w' : World} {v : Value} {ms : List (List (List Chg))} (h : MsV w v ms) (f : Fr (fun _ => False) w w') : MsV w' v ms := by
  obtain ⟨b, cs, e, h2, hb, hm⟩ := h
  refine ⟨b, cs, e, h2, hb.keep f (fun q => q), fun i m hi => ?_⟩
  obtain ⟨u, h1, h2⟩ := hm i m hi
  exact ⟨u, (f.cell (World.block_lt_of_cell? w _ h1) (fun q => q)).trans h1, h2.stay f (fun _ _ q => q)⟩
theorem DT.low {w : World} {B g : Nat} {P : Nat → Prop} {d : DS} (h : DT w B g d P) {F : Nat → Prop} {w' : World} (f : Fr P w w') : Fr (fun b => B ≤ b) w w' := f.mono (fun b _ q => (h.1.2 b q).1)
theorem DT.new {w : World} {B g : Nat} {P : Nat → Prop} {d : DS} (h : DT w B g d P) {w' : World} (f : Fr (fun _ => False) w w') : ∃ P', DT w' B g d P' := by
  obtain ⟨P', h1, _⟩ := DT.of (S := 0) (P0 := P) (h.1.new f) (fun b q => .inl q)
  exact ⟨P', h1⟩
/-- Records stay where the disk and the log are written. -/
theorem RcsV.dlog {w w' : World} {B g base lb z c s us m : Nat} {dd : Bool} {v : Value} {rs : List (List Chg)} {P : Nat → Prop} {d : DS} (h : RcsV w base v rs) (hd : DT w B g d P) (hl : LgW w lb g z c s us m dd) (f : Fr (fun b => P b ∨ b = lb) w w') : RcsV w' base v rs := by
  obtain ⟨vs, h1, h2, h3⟩ := h
  have hv : ∀ k, v.ownBlock = some k → ¬ (P k ∨ k = lb) := fun k hk q => by
    rcases h1.2 with ⟨q1, _⟩ | ⟨b', cap, cur, q1, _, hbb, _⟩
    · rw [q1] at hk
      simp [Value.ownBlock] at hk
    · rw [q1] at hk
      have hb2 : b' = k := by simpa [Value.ownBlock] using hk
      subst hb2
      rcases q with q | q
      · exact hd.not_rec hbb q
      · subst q
        exact absurd (blk_type hbb hl) (by decide)
  refine ⟨vs, own_keep h1 f hv, h2, fun i u r hu hr => ?_⟩
  obtain ⟨q1, q2⟩ := h3 i u r hu hr
  have hn : ∀ b cs, Blk w b 84 cs → ¬ (P b ∨ b = lb) := fun b cs j q => by
    rcases q with q | q
    · exact hd.not_chg j q
    · subst q
      exact absurd (blk_type j hl) (by decide)
  refine ⟨q1.keep f (fun b hb => ?_), fun b hb => ?_⟩
  · obtain ⟨_, cs, j⟩ := q2 b hb
    exact hn b cs j
  · obtain ⟨j1, cs, j2⟩ := q2 b hb
    exact ⟨j1, cs, j2.keep f (hn b cs j2)⟩
theorem RcsV.new {w w' : World} {base : Nat} {v : Value} {rs : List (List Chg)} (h : RcsV w base v rs) (f : Fr (fun _ => False) w w') : RcsV w' base v rs := h.stay f (fun _ _ q => q)
set_option maxRecDepth 100000 in
set_option maxHeartbeats 8000000 in
theorem live_any {w : World} {B g z c s e K base : Nat} {P : Nat → Prop} {d : DS} {q : List (Nat × List Chg)} (h : DT w B g d P) (hr : RI d z c s q e) (h4 : 4 ≤ z) (hz : z ≤ 4000) {sv : Value} {xs : List StepD} (hx : ∀ w', Fr (fun b => B ≤ b) w w' → StpV w' sv xs) (hxs : xs.length ≤ 12) (hok : ∀ x ∈ xs, okS x) (hc : c + 14 ≤ maxC) (hK : c + 14 ≤ K) {uv : Value} (hu : RcsV w base uv (q.map (·.2))) (hq : q.length ≤ 800) (hB : B ≤ w.heap.size) :
    Calls Try.prog 20 #[.pointer (some ⟨g, 0, none⟩), .int .i64 z, sv, uv] w fun en w' => ∃ v ms, en = .returned (.tuple #[v, .bool true]) ∧ MsV w' v ms ∧
      (∃ P' d', DT w' B g d' P' ∧ Aft d' z K ms ∧ d'.most 1000000) ∧ Fr (fun b => B ≤ b) w w' := by
  have HX := Lib.hid (And.intro hx (And.intro hxs hok))
  have HO := Lib.hid (ropen_any h hr h4 hz (by omega))
  have H0 := Lib.hid (And.intro h hr)
  obtain ⟨Au, cu, hue, _⟩ := hu.form
  rw [hue] at hu ⊢
  obtain ⟨nu, hnu⟩ : ∃ nu, nu = (q.map (·.2)).length := ⟨_, rfl⟩
  rw [← hnu] at hu ⊢
  have HU := Lib.hid (And.intro hu hnu)
  obtain ⟨A, cap, hse, hxm, _⟩ := hx w (Fr.refl _ w)
  obtain ⟨n, hn⟩ : ∃ n, n = xs.length := ⟨_, rfl⟩
  rw [← hn] at hse hxm
  subst hse
  have HN := Lib.hid hn
  have hn12 : n ≤ 12 := by omega
  clear hx hxs hok hue hu hnu hn hxm h hr
  go_enter Try.func20, Try.ntmps20
  go_wp2_with fail
  refine HO.out.mono ?_
  rintro en w1 ⟨o1, o2, ⟨P1, hd1, hp1⟩, f1⟩
  have HU1 := Lib.hid (HU.out.1.disk H0.out.1 f1)
  have f1b := Lib.hid (H0.out.1.low (F := P) f1)
  by_cases ok : d.settles 0 [hdS (c + 1) s] = true
  · obtain ⟨lb, v, rfl, hlb, hlg, hv⟩ := o2 ok
    obtain ⟨Av, cv, hve, _⟩ := hv.form
    rw [hve] at hv ⊢
    obtain ⟨nv, hnv⟩ : ∃ nv, nv = (q.map (·.2)).length := ⟨_, rfl⟩
    rw [← hnv] at hv ⊢
    have H1 := Lib.hid (And.intro hd1 (And.intro hlb (And.intro hlg (And.intro hv ok))))
    have HS := Lib.hid (rall_any hv.rd HU1.out.rd)
    clear HO o1 o2 hd1 hp1 hlg hv f1 ok hve hnv
    go_wp2_with fail
    refine HS.out.mono ?_
    rintro en w2 ⟨rfl, f2⟩
    simp only [decide_true]
    have H2 := Lib.hid f2
    clear HS f2
    go_wp2_with fail
    go_loopw [3, 13] (fun sl i wr => ∃ (k : Nat) (Pk : Nat → Prop) (dk : DS) (ck sk ek : Nat) (qk : List (Nat × List Chg)), i = .int .i64 k ∧ k ≤ n ∧ Hid (DT wr B g dk Pk ∧ LifeS dk z ck sk qk ek K ∧ ck ≤ c + 1 + k ∧ qk.length ≤ q.length + k ∧ LgW wr lb g z ck sk ek qk.length false ∧ RcsV wr 0 sl (qk.map (·.2))) ∧ Hid (Fr (fun b => B ≤ b) w wr)) (fun _ i _ => n - (intOf i).toNat)
    case atStart =>
      obtain ⟨P2, hd2⟩ := H1.out.1.new H2.out
      exact ⟨0, P2, _, c + 1, s, e, q, rfl, Nat.zero_le _, Lib.hid ⟨hd2, LifeS.opens H0.out.2 (by omega) (by omega) H1.out.2.2.2.2, Nat.le_refl _, Nat.le_refl _, H1.out.2.2.1.keep H2.out (fun q => q), (HU1.out.new H2.out).zero⟩, Lib.hid (f1b.out.trans H2.out (fun _ _ q => q.elim))⟩
    case round =>
      obtain ⟨k, Pk, dk, ck, sk, ek, qk, rfl, hk, HI, HF⟩ := hrel
      by_cases hlt : k < n
      · obtain ⟨A0, cap0, e0, _, h3⟩ := HX.out.1 wr HF.out
        injection e0 with e1 e2 e3
        subst e1
        obtain ⟨b, off, rfl, hat⟩ := h3 (by omega)
        obtain ⟨x, hx⟩ : ∃ x, xs[k]? = some x := ⟨_, List.getElem?_eq_getElem (by omega)⟩
        have hs := hat k x hx
        obtain ⟨Al, cl, hlv, hl9⟩ := lv_form hs.l
        have c0 := hs.c0
        have c2 := hs.c2
        have hll := hs.l
        rw [hlv] at c2 hll
        obtain ⟨nl, hnl⟩ : ∃ nl, nl = x.ls.length := ⟨_, rfl⟩
        rw [← hnl] at c2 hl9 hll
        obtain ⟨kk, hkk⟩ : ∃ kk, kk = x.k := ⟨_, rfl⟩
        rw [← hkk] at c0
        have hox := HX.out.2.2 x (List.mem_of_getElem? hx)
        have hi0 : (0 : Int) ≤ (k : Int) := by omega
        have hi1 : (k : Int) < (n : Int) := by omega
        obtain ⟨r, hrr⟩ : ∃ r, r = x.ls.map Leaf.chg := ⟨_, rfl⟩
        have HR := Lib.hid (record_any hll (by have := hox.1; omega))
        rw [← hrr] at HR
        have h5 : ∀ y ∈ r, y.p.length = 512 := fun y hy => by
          rw [hrr] at hy
          obtain ⟨l, _, rfl⟩ := List.mem_map.1 hy
          exact pageOf_len _
        have HL := Lib.hid (And.intro hrr h5)
        obtain ⟨As, cs, hse, _⟩ := HI.out.2.2.2.2.2.form
        subst hse
        obtain ⟨ns, hns⟩ : ∃ ns, ns = (qk.map (·.2)).length := ⟨_, rfl⟩
        rw [← hns] at HI ⊢
        have HNS := Lib.hid hns
        clear e2 e3 h3 hat hx hs hlv hnl hkk hox hrr h5 hll hlt hns hl9
        go_wp2_with fail
        refine HR.out.mono ?_
        rintro en w3 ⟨v3, rfl, hown, f3⟩
        have hrv := rcV_of_own hown HL.out.2
        obtain ⟨A3, c3, hv3, _⟩ := own_slice hown
        have c0' := (f3.cell (World.block_lt_of_cell? wr _ c0) (fun q => q)).trans c0
        subst hv3
        have HV := Lib.hid (And.intro hrv (And.intro hown f3))
        obtain ⟨nr, hnr⟩ : ∃ nr, nr = r.length := ⟨_, rfl⟩
        rw [← hnr] at HV ⊢
        have HNR := Lib.hid hnr
        clear HR hown f3 hrv c0 c2 hnr
        obtain ⟨P3, hd3⟩ := HI.out.1.new HV.out.2.2
        have H3 := Lib.hid (And.intro hd3 (And.intro (HI.out.2.2.2.2.1.keep HV.out.2.2 (fun q => q)) (And.intro (HI.out.2.2.2.2.2.new HV.out.2.2) (HF.out.trans HV.out.2.2 (fun _ _ q => q.elim)))))
        have HI' := Lib.hid (And.intro HI.out.2.1 (And.intro HI.out.2.2.1 HI.out.2.2.2.1))
        have hck : ck < maxC := by have := HI.out.2.2.1; have h9 := hc; omega
        have HCK := Lib.hid hck
        clear hd3 HI hck
        by_cases k1 : kk = 1
        · subst k1
          go_wp2_with fail
          by_cases hm : mayR r = true
          · have hmt : mayT ck (qk.length : Int) = true := by
              have h1 := HI'.out.1.ri.hd.2.1
              have h2 := HI'.out.1.ri.hd.2.2.1
              have h3 := HCK.out
              have h4 := HI'.out.2.2
              have h5 := hq
              have h6 := hk
              simp only [maxC] at h3
              simp [mayT]
              omega
            refine (rcommit_any H3.out.1 HI'.out.1.ri H3.out.2.1 HV.out.1 (fun b hb => own_blk HV.out.2.1 hb) hm hmt hz).mono ?_
            rintro en w4 ⟨o1, o2⟩
            by_cases hfit : ek + needN ((bytesR r).length : Nat) ≤ z
            · obtain ⟨o3, o4, ⟨P4, hd4, _⟩, f4⟩ := o2 hfit
              clear o1 o2
              have hF4 : Fr (fun b => B ≤ b) w w4 := H3.out.2.2.2.trans f4 (fun b hb q => by
                rcases q with q | q
                · exact (H3.out.1.1.2 b q).1
                · have := H1.out.2.1
                  subst q
                  exact Nat.le_trans hB this)
              have hS4 := H3.out.2.2.1.dlog H3.out.1 H3.out.2.1 f4
              have hno : ∀ b, (Value.slice A3 nr c3).ownBlock = some b → ¬ (P3 b ∨ b = lb) := fun b hb q => by
                obtain ⟨cs', j⟩ := own_blk HV.out.2.1 hb
                rcases q with q | q
                · exact H3.out.1.not_chg j q
                · subst q
                  exact absurd (blk_type j H3.out.2.1) (by decide)
              have hrv4 := HV.out.1.keep f4 hno
              have hub4 : ∀ b, (Value.slice A3 nr c3).ownBlock = some b → ∃ cs, Blk w4 b 84 cs := fun b hb => by
                obtain ⟨cs, j⟩ := own_blk HV.out.2.1 hb
                exact ⟨cs, j.keep f4 (hno b hb)⟩
              by_cases ok4 : dk.settles (1 + ek) (rowS ck qk.length r) = true
              · rw [if_pos ok4] at o3 o4
                subst o3
                obtain ⟨A1, n1, c1, w5, A6, c6, w6, hr1, hr2, hv6, f6⟩ := hS4.more hrv4 hub4 (by rw [List.length_map]; have h1 := HI'.out.2.2; have h2 := hq; have h3 := hk; omega) 49 49
                rw [← HNS.out] at hr2 hv6
                have HR1 := Lib.hid hr1
                have HR2 := Lib.hid hr2
                have H6 := Lib.hid (And.intro hv6 f6)
                have HS4 := Lib.hid hS4
                clear hr1 hr2 hv6 f6 hrv4 hub4 hS4
                have H4 := Lib.hid (And.intro hd4 (And.intro o4 hF4))
                have HL4 := Lib.hid (HI'.out.1.commit hm HL.out.2 hmt hfit ok4)
                clear hd4 o4 f4 hF4 hno hm hmt hfit ok4
                go_wp2_with (first
                  | (at_builtin; refine wpList_push_rec rfl (.const (.slice none 0 0)) (.tmp 60) rfl rfl rfl HR1.out rfl ?_)
                  | (at_builtin; refine wpList_push_rec rfl (.tmp 61) (.tmp 63) rfl rfl rfl HR2.out rfl ?_))
                obtain ⟨P6, hd6⟩ := H4.out.1.new H6.out.2
                refine ⟨⟨k + 1, P6, _, ck, sk, _, qk ++ [(ck, r)], by norm_cast, by omega, Lib.hid ⟨hd6, HL4.out, by have := HI'.out.2.1; omega, by rw [List.length_append]; have := HI'.out.2.2; simp; omega, by rw [List.length_append]; exact H4.out.2.1.keep H6.out.2 (fun q => q), by rw [List.map_append]; exact H6.out.1⟩, Lib.hid (H4.out.2.2.trans H6.out.2 (fun _ _ q => q.elim))⟩, ?_⟩
                simp only [intOf]
                omega
              · rw [Bool.not_eq_true] at ok4
                rw [ok4] at o3 o4
                simp only [Bool.false_eq_true, if_false] at o3 o4
                subst o3
                obtain ⟨A1, n1, c1, w5, A6, c6, w6, hr1, hr2, hv6, f6⟩ := hS4.more hrv4 hub4 (by rw [List.length_map]; have h1 := HI'.out.2.2; have h2 := hq; have h3 := hk; omega) 49 49
                rw [← HNS.out] at hr2 hv6
                have HR1 := Lib.hid hr1
                have HR2 := Lib.hid hr2
                have H6 := Lib.hid (And.intro hv6 f6)
                have HS4 := Lib.hid hS4
                clear hr1 hr2 hv6 f6 hrv4 hub4 hS4
                have H4 := Lib.hid (And.intro hd4 (And.intro o4 hF4))
                have HA4 := Lib.hid (And.intro (Aft.commit HI'.out.1.ri HI'.out.1.nw hm HL.out.2 hmt hfit HI'.out.1.cK ok4) (settle_manyN HI'.out.1.ri.vs (1 + ek) (ss := rowS ck qk.length r) (by rw [rowS_len]; omega)))
                clear hd4 o4 f4 hF4 hno hm hmt hfit ok4
                go_wp2_with (first
                  | (at_builtin; refine wpList_push_rec rfl (.const (.slice none 0 0)) (.tmp 60) rfl rfl rfl HR1.out rfl ?_)
                  | (at_builtin; refine wpList_push_rec rfl (.tmp 61) (.tmp 63) rfl rfl rfl HR2.out rfl ?_))
                have fW : Fr (fun _ => False) w4 (w6.alloc (.cells #[.slice As ns cs, .slice A6 (ns + 1) c6] 49)) := H6.out.2.alloc _
                obtain ⟨P7, hd7⟩ := H4.out.1.new fW
                refine (ldead_any (H4.out.2.1.keep fW (fun q => q))).mono ?_
                rintro en w7 ⟨rfl, rfl⟩
                have HW := Lib.hid (And.intro hd7 fW)
                clear hd7 fW
                go_wp2_with fail
                go_ret2
                exact ⟨_, [qk.map (·.2), qk.map (·.2) ++ [r]], rfl, MsV.two (Blk.new w6 _ _) (HS4.out.new HW.out.2) (H6.out.1.new ((Fr.refl _ w6).alloc _)), ⟨P7, _, HW.out.1, HA4.out.1, HA4.out.2⟩, H4.out.2.2.trans HW.out.2 (fun _ _ q => q.elim)⟩
            · obtain ⟨rfl, f4⟩ := o1 (by omega)
              clear o2 hfit hm hmt
              have hS4 := H3.out.2.2.1.new f4
              have hrv4 := HV.out.1.keep f4 (fun _ _ q => q)
              have hub4 : ∀ b, (Value.slice A3 nr c3).ownBlock = some b → ∃ cs, Blk w4 b 84 cs := fun b hb => by
                obtain ⟨cs, j⟩ := own_blk HV.out.2.1 hb
                exact ⟨cs, j.keep f4 (fun q => q)⟩
              obtain ⟨P4, hd4⟩ := H3.out.1.new f4
              obtain ⟨A1, n1, c1, w5, A6, c6, w6, hr1, hr2, hv6, f6⟩ := hS4.more hrv4 hub4 (by rw [List.length_map]; have h1 := HI'.out.2.2; have h2 := hq; have h3 := hk; omega) 49 49
              rw [← HNS.out] at hr2 hv6
              have HR1 := Lib.hid hr1
              have HR2 := Lib.hid hr2
              have H6 := Lib.hid (And.intro hv6 f6)
              have HS4 := Lib.hid hS4
              clear hr1 hr2 hv6 f6 hrv4 hub4 hS4
              have H4 := Lib.hid (And.intro hd4 (And.intro (H3.out.2.1.keep f4 (fun q => q)) (H3.out.2.2.2.trans f4 (fun _ _ q => q.elim))))
              clear hd4 f4
              go_wp2_with (first
                | (at_builtin; refine wpList_push_rec rfl (.const (.slice none 0 0)) (.tmp 60) rfl rfl rfl HR1.out rfl ?_)
                | (at_builtin; refine wpList_push_rec rfl (.tmp 61) (.tmp 63) rfl rfl rfl HR2.out rfl ?_))
              obtain ⟨P6, hd6⟩ := H4.out.1.new H6.out.2
              refine ⟨⟨k + 1, P6, dk, ck, sk, ek, qk, by norm_cast, by omega, Lib.hid ⟨hd6, HI'.out.1, by have := HI'.out.2.1; omega, by have := HI'.out.2.2; omega, H4.out.2.1.keep H6.out.2 (fun q => q), HS4.out.new H6.out.2⟩, Lib.hid (H4.out.2.2.trans H6.out.2 (fun _ _ q => q.elim))⟩, ?_⟩
              simp only [intOf]
              omega
          · rw [Bool.not_eq_true] at hm
            refine (lcommit_bad H3.out.2.1 HV.out.1 hm).mono ?_
            rintro en w4 ⟨rfl, f4⟩
            clear hm
            have hS4 := H3.out.2.2.1.new f4
            have hrv4 := HV.out.1.keep f4 (fun _ _ q => q)
            have hub4 : ∀ b, (Value.slice A3 nr c3).ownBlock = some b → ∃ cs, Blk w4 b 84 cs := fun b hb => by
              obtain ⟨cs, j⟩ := own_blk HV.out.2.1 hb
              exact ⟨cs, j.keep f4 (fun q => q)⟩
            obtain ⟨P4, hd4⟩ := H3.out.1.new f4
            obtain ⟨A1, n1, c1, w5, A6, c6, w6, hr1, hr2, hv6, f6⟩ := hS4.more hrv4 hub4 (by rw [List.length_map]; have h1 := HI'.out.2.2; have h2 := hq; have h3 := hk; omega) 49 49
            rw [← HNS.out] at hr2 hv6
            have HR1 := Lib.hid hr1
            have HR2 := Lib.hid hr2
            have H6 := Lib.hid (And.intro hv6 f6)
            have HS4 := Lib.hid hS4
            clear hr1 hr2 hv6 f6 hrv4 hub4 hS4
            have H4 := Lib.hid (And.intro hd4 (And.intro (H3.out.2.1.keep f4 (fun q => q)) (H3.out.2.2.2.trans f4 (fun _ _ q => q.elim))))
            clear hd4 f4
            go_wp2_with (first
              | (at_builtin; refine wpList_push_rec rfl (.const (.slice none 0 0)) (.tmp 60) rfl rfl rfl HR1.out rfl ?_)
              | (at_builtin; refine wpList_push_rec rfl (.tmp 61) (.tmp 63) rfl rfl rfl HR2.out rfl ?_))
            obtain ⟨P6, hd6⟩ := H4.out.1.new H6.out.2
            refine ⟨⟨k + 1, P6, dk, ck, sk, ek, qk, by norm_cast, by omega, Lib.hid ⟨hd6, HI'.out.1, by have := HI'.out.2.1; omega, by have := HI'.out.2.2; omega, H4.out.2.1.keep H6.out.2 (fun q => q), HS4.out.new H6.out.2⟩, Lib.hid (H4.out.2.2.trans H6.out.2 (fun _ _ q => q.elim))⟩, ?_⟩
            simp only [intOf]
            omega
        · by_cases k2 : kk = 2
          · subst k2
            clear k1
            go_wp2_with fail
            refine (rtrunc_any H3.out.1 HI'.out.1.ri H3.out.2.1 HCK.out).mono ?_
            rintro en w4 ⟨o1, o2, ⟨P4, hd4, _⟩, f4⟩
            have hS4 := H3.out.2.2.1.dlog H3.out.1 H3.out.2.1 f4
            have hF4 : Fr (fun b => B ≤ b) w w4 := H3.out.2.2.2.trans f4 (fun b hb q => by
              rcases q with q | q
              · exact (H3.out.1.1.2 b q).1
              · have := H1.out.2.1
                subst q
                exact Nat.le_trans hB this)
            by_cases ok4 : dk.settles 0 [hdS (ck + 1) (ck + 1)] = true
            · rw [if_pos ok4] at o1 o2
              subst o1
              have H4 := Lib.hid (And.intro hd4 (And.intro o2 hF4))
              have HL4 := Lib.hid (HI'.out.1.ri.cut HCK.out ok4)
              clear hd4 o2 f4 hS4 hF4
              go_wp2_with fail
              refine ⟨⟨k + 1, P4, _, ck + 1, ck + 1, 0, [], by norm_cast, by omega, Lib.hid ⟨H4.out.1, ⟨HL4.out.1, HL4.out.2 _ _, by have := HI'.out.2.1; omega⟩, by have := HI'.out.2.1; omega, Nat.zero_le _, H4.out.2.1, RcsV.nil _ _⟩, Lib.hid H4.out.2.2⟩, ?_⟩
              simp only [intOf]
              omega
            · rw [Bool.not_eq_true] at ok4
              rw [ok4] at o1 o2
              simp only [Bool.false_eq_true, if_false] at o1 o2
              subst o1
              have H4 := Lib.hid (And.intro hd4 (And.intro o2 (And.intro hS4 hF4)))
              have HA4 := Lib.hid (Aft.cut HI'.out.1.ri HCK.out (K := K) (by have := HI'.out.2.1; omega) ok4)
              clear hd4 o2 f4 hS4 hF4
              go_wp2_with fail
              have fW : Fr (fun _ => False) w4 (w4.alloc (.cells #[.slice As ns cs, .slice none 0 0] 49)) := (Fr.refl _ w4).alloc _
              obtain ⟨P5, hd5⟩ := H4.out.1.new fW
              refine (ldead_any (H4.out.2.1.keep fW (fun q => q))).mono ?_
              rintro en w5 ⟨rfl, rfl⟩
              have HW := Lib.hid (And.intro hd5 fW)
              clear hd5 fW
              go_wp2_with fail
              go_ret2
              exact ⟨_, [qk.map (·.2), []], rfl, MsV.two (Blk.new w4 _ _) (H4.out.2.2.1.new HW.out.2) (RcsV.nil _ 0), ⟨P5, _, HW.out.1, HA4.out, settle_manyN HI'.out.1.ri.vs _ (by simp)⟩, H4.out.2.2.2.trans HW.out.2 (fun _ _ q => q.elim)⟩
          · go_wp2_with fail
            refine ⟨⟨k + 1, P3, dk, ck, sk, ek, qk, by norm_cast, by omega, Lib.hid ⟨H3.out.1, HI'.out.1, by have := HI'.out.2.1; omega, by have := HI'.out.2.2; omega, H3.out.2.1, H3.out.2.2.1⟩, Lib.hid H3.out.2.2.2⟩, ?_⟩
            simp only [intOf]
            omega
      · have hkn : k = n := by omega
        obtain ⟨As, cs, hse, _⟩ := HI.out.2.2.2.2.2.form
        subst hse
        obtain ⟨ns, hns⟩ : ∃ ns, ns = (qk.map (·.2)).length := ⟨_, rfl⟩
        rw [← hns] at HI ⊢
        subst hkn
        clear hlt hns
        go_wp2_with fail
        have fW : Fr (fun _ => False) wr (wr.alloc (.cells #[.slice As ns cs] 49)) := (Fr.refl _ wr).alloc _
        obtain ⟨P2, hd2⟩ := HI.out.1.new fW
        go_ret2
        exact ⟨_, [qk.map (·.2)], rfl, MsV.one (Blk.new wr _ _) (HI.out.2.2.2.2.2.new fW), ⟨P2, _, hd2, Aft.rest HI.out.2.1.ri HI.out.2.1.cK, fun j => by rw [HI.out.2.1.ri.vs j]; exact Nat.zero_le _⟩, HF.out.trans fW (fun _ _ q => q.elim)⟩
  · rw [Bool.not_eq_true] at ok
    rw [o1 ok]
    have HD := Lib.hid (And.intro hd1 ok)
    clear HO o1 o2 hd1 hp1 f1
    go_wp2_with fail
    have fW : Fr (fun _ => False) w1 (w1.alloc (.cells #[.slice Au nu cu] 49)) := (Fr.refl _ w1).alloc _
    obtain ⟨P2, hd2⟩ := HD.out.1.new fW
    refine (adead_any hd2.1).mono ?_
    rintro en w2 ⟨rfl, rfl⟩
    rw [settle_dd HD.out.2]
    have HW := Lib.hid (And.intro hd2 fW)
    clear hd2 fW
    go_wp2_with fail
    go_ret2
    refine ⟨_, [q.map (·.2)], rfl, MsV.one (Blk.new w1 _ _) (HU1.out.new HW.out.2), ⟨P2, _, HW.out.1, Aft.opens H0.out.2 (by omega) (by omega) HD.out.2, settle_manyN H0.out.2.vs _ (by simp)⟩, f1b.out.trans HW.out.2 (fun _ _ q => q.elim)⟩
end Go.Proofs.Ytobnfadcffhfdaa
