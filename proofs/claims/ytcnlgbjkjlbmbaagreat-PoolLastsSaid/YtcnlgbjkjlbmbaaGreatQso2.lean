/- couponref06: Commit, where something is done. -/
import Derived.Test.YtcnlgbjkjlbmbaaGreatQsq
namespace Go.Proofs.YtcnlgbjkjlbmbaaGreat
open Go.RowKit

theorem pgsV_own {w : World} {base : Nat} {v : Value} {L : List (List UInt8)} (h : w.ownsRow base 50 512 v L.length (cellsB (flatP L))) (h5 : ∀ y ∈ L, y.length = 512) : PgsV w v L := by
 obtain ⟨A, c, rfl, h1, h2⟩ := own_slice h
 refine ⟨A, c, rfl, h1, h2, h5, fun h0 => ?_⟩
 rcases h.2 with ⟨_, e⟩ | ⟨g, cap, cur, e, _⟩
 · omega
 · have hA : A = some ⟨g, 0, none⟩ := by injection e
   subst hA
   refine ⟨g, 0, rfl, fun i x hi j u hj => ?_⟩
   have := h.cells (g := g) rfl (i * 512 + j) u (flatP_at h5 hi j u hj)
   rw [Addr.add_mid] at this
   rw [Nat.zero_add]
   rwa [Nat.zero_add] at this
section
variable {ops : Array Oper} {o : Oper} {a : Act} {Q : Exit → Act → World → Prop}
theorem wpList_app_pages {rest : List Oper} {w : World} (hg : o.guard = none) (x : Operand) (hop : o.op = Op.call { callee := Callee.builtin Builtin.append, args := #[.const (.slice none 0 0), x], argTypes := #[34, 34] }) {v : Value} {l : List (List UInt8)} (hx : a.eval x = v) (h : PgsV w v l) (hn : 0 < l.length) (hl : l.length ≤ 10000)
 (hK : ∀ b c w', w'.ownsRow w.heap.size 50 512 (.slice (some ⟨b, 0, none⟩) l.length c) l.length (cellsB (flatP l)) → Fr (fun _ => False) w w' → w.heap.size ≤ b → wpList Tryz.prog ops Q rest (a.put o.dst (.slice (some ⟨b, 0, none⟩) l.length c)) w') : wpList Tryz.prog ops Q (o :: rest) a w := by
 refine wpList_plain hg fun K' hK' => ?_
 obtain ⟨b, c, w', hrun, h1, h2, h3⟩ := append_pages h hn hl o.type
 have hc : a.eval (.const (.slice none 0 0)) = .slice none 0 0 := rfl
 unfold Oper.wp
 simp [execOp, hop, resolve, invoke, builtin, hc, hx, hrun, Result.andThen]
 exact hK' _ _ (hK b c w' h1 h2 h3)
end
def CmC (W : World) (r : Nat) (pg : List (List UInt8)) (vc : Value) (Md Ml : Nat) (fr z room : Int) (vp vd vl : Value) (di cl : List Int) : Prop := RpB W r vp vc vd vl fr z room ∧ PgsV W vp pg ∧ IntsN W vd di ∧ di.length ≤ Md ∧ IntsN W vl cl ∧ cl.length ≤ Ml ∧ OT 50 W vp ∧ OT 3 W vd ∧ OT 3 W vl
def CmI (W : World) (r : Nat) (pg : List (List UInt8)) (vc : Value) (Md Ml : Nat) (fr z : Int) : Prop := ∃ room vp vd vl di cl, CmC W r pg vc Md Ml fr z room vp vd vl di cl
theorem com_end {w W : World} {r M k : Nat} {P1 P2 : List (List UInt8)} {vc : Value} {fr z room : Int} {vp vd vl : Value} {di cl : List Int} (hs : Blk (W.setCell ⟨r, 1, none⟩ (.slice none 0 0)) r 79 (#[vp, vc, vd, vl, .int .i64 fr, .int .i64 z, .int .i64 room].setIfInBounds 1 (.slice none 0 0)) ∧ Fr (fun b => b = r) W (W.setCell ⟨r, 1, none⟩ (.slice none 0 0))) (h : CmC W r P1 vc (M + k) M fr z room vp vd vl di cl) (f : Fr (fun b => b = r) w W) (e : P2 = P1) :
 Ending.returned (Value.int .i64 0) = .returned (.int .i64 0) ∧ RP (W.setCell ⟨r, 1, none⟩ (.slice none 0 0)) r P2 [] (M + k) fr z ∧ Fr (fun b => b = r) w (W.setCell ⟨r, 1, none⟩ (.slice none 0 0)) := by
 subst e
 obtain ⟨q1, q2, q3, q4, q5, q6, q7, q8, q9⟩ := h
 exact ⟨rfl, ⟨room, vp, .slice none 0 0, vd, vl, di, cl, hs.1, q2.keep hs.2 (q7.p q1), RcV.nil _, q3.keep hs.2 (q8.i q1), q4, q5.keep hs.2 (q9.i q1), by omega, q7.keep hs.2 (q7.p q1), OT.none_, q8.keep hs.2 (q8.i q1), q9.keep hs.2 (q9.i q1)⟩, f.trans hs.2 (fun _ _ q => q)⟩
section
variable {w : World} {r M : Nat} {pg : List (List UInt8)} {ch : List Chg} {fr : Int} {z : Nat}
set_option maxRecDepth 100000 in
set_option maxHeartbeats 16000000 in
theorem rcom6_go (h : RP w r pg ch M fr (z : Nat)) (hM : M + ch.length ≤ 39000) (hpg : 0 < pg.length ∧ pg.length ≤ 1000) (hch : 1 ≤ ch.length ∧ ch.length ≤ 60) (hin : ∀ c ∈ ch, 0 ≤ c.n ∧ c.n < (pg.length : Int)) (hz : wneedN (ch.length : Nat) ≤ z) (hz2 : z ≤ 4000) (hpos : 0 < wneedN (ch.length : Nat)) : Calls Tryz.prog 37 #[.pointer (some ⟨r, 0, none⟩)] w fun e w' => e = .returned (.int .i64 0) ∧ RP w' r (setCh pg ch) [] (M + ch.length) fr (z : Nat) ∧ Fr (fun b => b = r) w w' := by
 obtain ⟨room, vp, vc, vd, vl, di, cl, hC⟩ := h
 obtain ⟨c0, c1, c2, c3, c4, c5, c6⟩ := rp_cells hC.1
 obtain ⟨Ac, cc, hvc, hcm, hcM, hat⟩ := hC.2.2.1
 obtain ⟨m, hm⟩ : ∃ m, m = ch.length := ⟨_, rfl⟩
 have HN := Lib.hid (lneed_any w (m : Int))
 obtain ⟨N0, hN0⟩ : ∃ N0, N0 = wneedN (m : Int) := ⟨_, rfl⟩
 obtain ⟨P2, hP2⟩ : ∃ P2, P2 = setCh pg ch := ⟨_, rfl⟩
 rw [← hP2]
 rw [← hm] at hvc hcm hat hch hM hz hpos ⊢
 rw [← hN0] at HN hz hpos
 obtain ⟨b, off, hAc, hrec⟩ := hat (by omega)
 subst hAc
 subst hvc
 have H0 := Lib.hid (And.intro hC (And.intro hm (And.intro hrec (And.intro hin (And.intro hpg hP2)))))
 have hb0 : ((m : Int) == 0) = false := by rw [beq_eq_false_iff_ne]; omega
 have hb1 : ((N0 : Int) == 0) = false := by rw [beq_eq_false_iff_ne]; omega
 have hle : ¬ (N0 : Int) > (z : Int) := by omega
 have hdz : decide (z < N0) = false := decide_eq_false (by omega)
 clear hC hm hrec hin hP2 hN0 hat
 go_enter Tryz.func37, Tryz.ntmps37
 go_wp2_with fail
 refine HN.out.mono ?_
 rintro e w1 ⟨rfl, rfl⟩
 clear HN
 by_cases hr : (N0 : Int) > room
 · have HSE := Lib.hid (rsettle6_any H0.out.1.1)
   go_wp2_with fail
   refine HSE.out.mono ?_
   rintro e W1 ⟨rfl, hB1, f1⟩
   obtain ⟨room2, hroom2⟩ : ∃ room2 : Int, room2 = z := ⟨_, rfl⟩
   have HS1 : Hid (CmC W1 r pg (.slice (some ⟨b, off, none⟩) m cc) M M fr z room2 vp (.slice none 0 0) vl [] cl ∧ Fr (fun b => b = r) w W1) := by
    obtain ⟨q1, q2, q3, q4, q5, q6, q7, s0, s1, s2, s3⟩ := H0.out.1
    exact Lib.hid ⟨⟨by rw [hroom2]; exact hB1, q2.keep f1 (s0.p q1), intsN_own (World.ownsRow_nil W1 0 3 1), by simp, q6.keep f1 (s3.i q1), q7, s0.keep f1 (s0.p q1), OT.none_, s3.keep f1 (s3.i q1)⟩, f1⟩
   clear hB1 f1 HSE c0 c1 c2 c3 c4 c5 c6 hr hroom2
   obtain ⟨c0, c1, c2, c3, c4, c5, c6⟩ := rp_cells HS1.out.1.1
   have z6 := HS1.out.1.1.frozen 6
   obtain ⟨rm, hrm⟩ : ∃ rm, IntKind.i64.wrap (room2 - (N0 : Int)) = rm := ⟨_, rfl⟩
   obtain ⟨W2, hW2⟩ : ∃ W2, W2 = W1.setCell ⟨r, 6, none⟩ (.int .i64 rm) := ⟨_, rfl⟩
   have hs6 := rp_set HS1.out.1.1 6 (.int .i64 rm)
   rw [← hW2] at hs6
   have hI : CmI W2 r pg (.slice (some ⟨b, off, none⟩) m cc) M M fr z := by
    obtain ⟨⟨q1, q2, q3, q4, q5, q6, q7, q8, q9⟩, q10⟩ := HS1.out
    exact ⟨_, _, _, _, _, _, hs6.1, q2.keep hs6.2 (q7.p q1), q3.keep hs6.2 (q8.i q1), q4, q5.keep hs6.2 (q9.i q1), q6, q7.keep hs6.2 (q7.p q1), q8.keep hs6.2 (q8.i q1), q9.keep hs6.2 (q9.i q1)⟩
   have HS2 := Lib.hid (And.intro hI (HS1.out.2.trans hs6.2 (fun _ _ q => q)))
   clear hI hs6
   go_upto_region 11 with fail
   rw [← hW2]
   clear hW2 hrm c0 c1 c2 c3 c4 c5 c6 z6
   go_wp2_with fail
   go_loopw [4] (fun i wr => ∃ k : Nat, i = .int .i64 k ∧ k ≤ m ∧ Hid (CmI wr r (setCh pg (ch.take k)) (.slice (some ⟨b, off, none⟩) m cc) (M + k) M fr z) ∧ Hid (Fr (fun b => b = r) w wr)) (fun i _ => m - (intOf i).toNat)
   case atStart => exact ⟨0, rfl, Nat.zero_le _, Lib.hid (by rw [Nat.add_zero]; exact HS2.out.1), Lib.hid HS2.out.2⟩
   case round =>
    clear HS1 HS2
    obtain ⟨k, rfl, hk, HI, HF⟩ := hrel
    obtain ⟨room3, vp3, vd3, vl3, di3, cl3, hC3⟩ := HI.out
    obtain ⟨k0, k1, k2, k3, k4, k5, k6⟩ := rp_cells hC3.1
    by_cases hlt : k < m
    · obtain ⟨c, hc⟩ : ∃ c, ch[k]? = some c := ⟨_, List.getElem?_eq_getElem (by have := H0.out.2.1; omega)⟩
      obtain ⟨hcl, hcr⟩ := H0.out.2.2.1 k c hc
      have hcn := H0.out.2.2.2.1 c (List.mem_of_getElem? hc)
      obtain ⟨nn, hnn⟩ : ∃ nn : Nat, c.n = nn := ⟨c.n.toNat, by omega⟩
      obtain ⟨pp, hpp⟩ : ∃ pp, pp = c.p := ⟨_, rfl⟩
      have hbr : b ≠ r := OT.c H0.out.1.2.2.2.2.2.2.2.2.1 H0.out.1.1 b rfl
      have hcrW : ∀ W, Fr (fun b => b = r) w W → W.cell? ⟨b, off + k * 513, none⟩ = some (.int .i64 (nn : Nat)) ∧ W.rangeAt b (off + k * 513 + 1) (cellsB pp) := fun W f => by
       have hx : W.rangeAt b (off + k * 513) (chC c) := fun j u hj => (f.cell (World.block_lt_of_cell? w _ (hcr j u hj)) hbr).trans (hcr j u hj)
       refine ⟨by have := hx 0 _ rfl; rw [← hnn]; exact this, fun j u hj => ?_⟩
       have := hx (j + 1) u (by rw [hpp] at hj; simpa [chC] using hj)
       rwa [show off + k * 513 + (j + 1) = off + k * 513 + 1 + j by omega] at this
      obtain ⟨L, hL⟩ : ∃ L, L = setCh pg (ch.take k) := ⟨_, rfl⟩
      rw [← hL] at hC3
      have hLl : L.length = pg.length := by rw [hL, setCh_len]
      have hL5 : ∀ y ∈ L, y.length = 512 := by obtain ⟨_, _, _, _, _, q, _⟩ := hC3.2.1; exact q
      have hnext : setCh pg (ch.take (k + 1)) = L.set nn pp := by
       rw [List.take_add_one, hc]
       show setCh pg (ch.take k ++ [c]) = _
       rw [setCh_snoc, ← hL, hnn, hpp]
       rfl
      have hnL : (nn : Int) < (L.length : Int) := by omega
      have HPL := Lib.hid (show pp.length = 512 by rw [hpp]; exact hcl)
      have hk5 := (hcrW wr HF.out).1
      have hk0 : (0 : Int) ≤ (k : Int) := by omega
      have hkm : (k : Int) < (m : Int) := by omega
      have HR := Lib.hid (And.intro hC3 (And.intro hcrW (And.intro hLl (And.intro hL5 (And.intro hnext (And.intro hC3.1.lt H0.out.2.2.2.2.1))))))
      clear hc hcl hcr hcn hnn hpp hbr hcrW hL hLl hL5 hnext hC3 hlt HI
      go_upto_region 16 with (at_builtin; refine wpList_app_pages rfl (.tmp 67) rfl rfl HR.out.1.2.1 (by have := HR.out.2.2.1; have := HR.out.2.2.2.2.2.2; omega) (by have := HR.out.2.2.1; have := HR.out.2.2.2.2.2.2; omega) ?_; intro b1 c1 w1 ho f1 hb1; have hB1 := HR.out.1.1.keep f1 (fun q => q); have z0 := hB1.frozen 0; have x0 := (rp_cells hB1).1; have H1 := Lib.hid (And.intro ho (And.intro f1 (And.intro hb1 hB1))); clear ho f1 hb1 hB1)
      obtain ⟨s2, f2⟩ := rp_set H1.out.2.2.2 0 (.slice (some ⟨b1, 0, none⟩) L.length c1)
      obtain ⟨w2, hw2⟩ : ∃ w2, w2 = w1.setCell ⟨r, 0, none⟩ (.slice (some ⟨b1, 0, none⟩) L.length c1) := ⟨_, rfl⟩
      rw [← hw2] at s2 f2 ⊢
      have hb1r : b1 ≠ r := by have := H1.out.2.2.1; have := HR.out.2.2.2.2.2.1; omega
      have fd : Fr (fun _ => False) w2 w2.drew := (Fr.refl (fun _ => False) w2).drew
      have s2' : RpB w2.drew r (.slice (some ⟨b1, 0, none⟩) L.length c1) (.slice (some ⟨b, off, none⟩) m cc) vd3 vl3 fr z room3 := Blk.keep (show RpB w2 r (.slice (some ⟨b1, 0, none⟩) L.length c1) (.slice (some ⟨b, off, none⟩) m cc) vd3 vl3 fr z room3 from s2) fd (fun q => q)
      have ho2 := own_keep (own_keep H1.out.1 f2 (fun j hj e => hb1r (by injection hj with hj; exact hj.trans e))) fd (fun _ _ q => q)
      obtain ⟨hth, ho3, f3⟩ := own_page (i := nn) (x := pp) ho2 HR.out.2.2.2.1 rfl (by omega) HPL.out
      obtain ⟨W3, hW3⟩ : ∃ W3, W3 = w2.drew.setCells b1 (nn * 512) (cellsB pp) := ⟨_, rfl⟩
      rw [← hW3] at ho3 f3
      have F2 : Fr (fun b => b = r) wr w2.drew := ((H1.out.2.1.mono (fun _ _ q => q.elim)).trans f2 (fun _ _ q => q)).trans fd (fun _ _ q => q.elim)
      have F3 : Fr (fun b => b = r) wr W3 := F2.trans f3 (fun j hj e => by have := H1.out.2.2.1; omega)
      have s3 : RpB W3 r (.slice (some ⟨b1, 0, none⟩) L.length c1) (.slice (some ⟨b, off, none⟩) m cc) vd3 vl3 fr z room3 := s2'.keep f3 (fun e => hb1r e.symm)
      have HSR := Lib.hid (And.intro (And.intro (rp_cells s2').1 (And.intro (rp_cells s2').2.1 (HR.out.2.1 w2.drew (HF.out.trans F2 (fun _ _ q => q))).2)) (And.intro (And.intro (rp_cells s3).1 (And.intro (rp_cells s3).2.1 (HR.out.2.1 W3 (HF.out.trans F3 (fun _ _ q => q))).2)) hth))
      have hpv := pgsV_own (L := L.set nn pp) (by rw [List.length_set]; exact ho3) (fun y hy => by
       rcases List.mem_or_eq_of_mem_set hy with q | q
       · exact HR.out.2.2.2.1 y q
       · rw [q]; exact HPL.out)
      obtain ⟨q1, q2, q3, q4, q5, q6, q7, q8, q9⟩ := HR.out.1
      have hd3 := q3.keep F3 (q8.i q1)
      have hl3 := q5.keep F3 (q9.i q1)
      have q83 := q8.keep F3 (q8.i q1)
      have hpt : OT 50 W3 (.slice (some ⟨b1, 0, none⟩) L.length c1) := OT.own ho3
      have HWO := Lib.hid (without_any hl3.1 (by omega) (nn : Int))
      have H3 := Lib.hid (And.intro s3 (And.intro hpv (And.intro hd3 (And.intro q4 (And.intro q6 (And.intro F3 (And.intro hb1r (And.intro hpt q83))))))))
      obtain ⟨y0, y1, y2, y3, y4, y5, y6⟩ := rp_cells s3
      clear s2 f2 hw2 fd s2' ho2 hth ho3 f3 F2 F3 s3 hpv q1 q2 q3 q4 q5 q6 q7 q8 q9 q83 hpt hd3 hl3 z0 x0 k0 k1 k2 k3 k4 k5 k6 hk5
      (try simp only [Act.put, List.setIfInBounds_toArray, List.set_cons_zero, List.set_cons_succ])
      refine wp_region_held_drew (S := fun w' => w'.cell? ⟨r, 0, none⟩ = some (.slice (some ⟨b1, 0, none⟩) L.length c1) ∧ w'.cell? ⟨r, 1, none⟩ = some (.slice (some ⟨b, off, none⟩) m cc) ∧ w'.rangeAt b (off + k * 513 + 1) (cellsB pp)) (by kernel_rfl) HSR.out.1 (fun hS0 => ?_)
      refine anyH_tk 0 71 (.pointer (some ⟨r, 0, none⟩)) rfl rfl (.inl ⟨by rfl, fun w'' hS => by go_simp⟩) hS0 ?_
      (simp only [sA, sB, sC])
      refine anyH_tk 1 72 (.pointer (some ⟨r, 0, none⟩)) rfl rfl (.inl ⟨by rfl, fun w'' hS => by go_simp⟩) hS0 ?_
      (simp only [sA, sB, sC])
      refine anyH_tk 2 73 (.pointer (some ⟨r, 0, none⟩)) rfl rfl (.inl ⟨by rfl, fun w'' hS => by go_simp⟩) hS0 ?_
      (simp only [sA, sB, sC])
      refine anyH_tk 3 74 (.slice (some ⟨b1, 0, none⟩) L.length c1) rfl rfl (.inl ⟨by rfl, fun w'' hS => by have q0 := hS.1; go_simp⟩) hS0 ?_
      (simp only [sA, sB, sC])
      refine anyH_tk 4 75 (.int .i64 (nn : Nat)) rfl rfl (.inl ⟨by rfl, fun w'' hS => by go_simp⟩) hS0 ?_
      (simp only [sA, sB, sC])
      refine anyH_tk 5 76 (.pointer (some ⟨r, 0, none⟩)) rfl rfl (.inl ⟨by rfl, fun w'' hS => by go_simp⟩) hS0 ?_
      (simp only [sA, sB, sC])
      refine anyH_tk 6 77 (.pointer (some ⟨r, 0, none⟩)) rfl rfl (.inl ⟨by rfl, fun w'' hS => by go_simp⟩) hS0 ?_
      (simp only [sA, sB, sC])
      refine anyH_tk 7 78 (.pointer (some ⟨r, 1, none⟩)) rfl rfl (.inl ⟨by rfl, fun w'' hS => by go_simp⟩) hS0 ?_
      (simp only [sA, sB, sC])
      refine anyH_tk 8 79 (.slice (some ⟨b, off, none⟩) m cc) rfl rfl (.inl ⟨by rfl, fun w'' hS => by have q0 := hS.2.1; go_simp⟩) hS0 ?_
      (simp only [sA, sB, sC])
      refine anyH_tk 9 80 (.int .i64 (k : Nat)) rfl rfl (.inl ⟨by rfl, fun w'' hS => by go_simp⟩) hS0 ?_
      (simp only [sA, sB, sC])
      refine anyH_tk 10 81 (.pointer (some ⟨b, off + k * 513, none⟩)) rfl rfl (.inl ⟨by rfl, fun w'' hS => by go_simp⟩) hS0 ?_
      (simp only [sA, sB, sC])
      refine anyH_tk 11 82 (.pointer (some ⟨b, off + k * 513 + 1, none⟩)) rfl rfl (.inl ⟨by rfl, fun w'' hS => by go_simp⟩) hS0 ?_
      (simp only [sA, sB, sC])
      refine anyH_tk 12 83 (av pp) rfl rfl (.inl ⟨by rfl, fun w'' hS => run_load_mid 50 _ rfl b (off + k * 513 + 1) rfl (cellsB pp) _ hS.2.2 Tryz.underlying50 rfl (by rw [infoPgS, cellsB_len, HPL.out])⟩) hS0 ?_
      (simp only [sA, sB, sC])
      refine anyH_tk 13 84 (.pointer (some ⟨b1, nn * 512, none⟩)) rfl rfl (.inl ⟨by rfl, fun w'' hS => by go_simp⟩) hS0 ?_
      (simp only [sA, sB, sC])
      refine anyH_skip 14 (w2.drew.setCells b1 (nn * 512) (cellsB pp)) (by kernel_rfl) rfl rfl (by rfl) (run_store_mid 50 _ _ rfl b1 (nn * 512) (cellsB pp).toArray rfl rfl (by simp only [List.size_toArray, cellsB_len, HPL.out]; exact HSR.out.2.2) (by rw [infoPgS]; simp [cellsB_len, HPL.out]) (all_oneCell_toArray (cellsB_one _))) (by rw [← hW3]; exact HSR.out.2.1) ?_
      (try (simp only [sA, sB, sC]))
      refine wpAnyH_done (by kernel_rfl) ?_ _
      clear hS0
      rw [← hW3]
      clear hW3

      go_wp2_with fail
      refine HWO.out.mono ?_
      rintro e w4 ⟨v4, rfl, ho4, f4⟩
      obtain ⟨A4, c4, hv4, _, _⟩ := own_slice ho4
      obtain ⟨l4, hl4⟩ : ∃ l4, l4 = (cl3.filter fun z => decide (z ≠ (nn : Int))) := ⟨_, rfl⟩
      have hll4 : l4.length ≤ M := by rw [hl4]; exact Nat.le_trans (List.length_filter_le _ _) H3.out.2.2.2.2.1
      rw [← hl4] at ho4 hv4
      have hi4 := intsN_own ho4
      have hr4 : ∀ b, v4.ownBlock = some b → b ≠ r := fun b hb => by have := own_low ho4 hb; have := H3.out.1.lt; omega
      obtain ⟨k4, hk4⟩ : ∃ k4, k4 = l4.length := ⟨_, rfl⟩
      rw [← hk4] at hv4
      subst hv4
      have B4 : RpB w4 r (.slice (some ⟨b1, 0, none⟩) L.length c1) (.slice (some ⟨b, off, none⟩) m cc) vd3 vl3 fr z room3 := H3.out.1.keep f4 (fun q => q)
      have z3 := B4.frozen 3
      have x3 := (rp_cells B4).2.2.2.1
      obtain ⟨s5, f5⟩ := rp_set B4 3 (.slice A4 k4 c4)
      obtain ⟨w5, hw5⟩ : ∃ w5, w5 = w4.setCell ⟨r, 3, none⟩ (.slice A4 k4 c4) := ⟨_, rfl⟩
      rw [← hw5] at s5 f5
      have s5' : RpB w5 r (.slice (some ⟨b1, 0, none⟩) L.length c1) (.slice (some ⟨b, off, none⟩) m cc) vd3 (.slice A4 k4 c4) fr z room3 := s5
      have F5 : Fr (fun b => b = r) W3 w5 := (f4.mono (fun _ _ q => q.elim)).trans f5 (fun _ _ q => q)
      have hlt5 : OT 3 w5 (.slice A4 k4 c4) := (OT.own ho4).keep f5 (fun b hb e => hr4 b hb e)
      have hdt5 : OT 3 w5 vd3 := H3.out.2.2.2.2.2.2.2.2.keep F5 (OT.i H3.out.2.2.2.2.2.2.2.2 H3.out.1)
      have hpt5 : OT 50 w5 (.slice (some ⟨b1, 0, none⟩) L.length c1) := H3.out.2.2.2.2.2.2.2.1.keep F5 (OT.p H3.out.2.2.2.2.2.2.2.1 H3.out.1)
      have hd5 := H3.out.2.2.1.keep F5 (OT.i H3.out.2.2.2.2.2.2.2.2 H3.out.1)
      have HAS := Lib.hid (rhas6_any hd5.1 (by have := H3.out.2.2.2.1; omega) (nn : Int))
      have H5 := Lib.hid (And.intro s5' (And.intro (H3.out.2.1.keep F5 (fun j hj e => H3.out.2.2.2.2.2.2.1 (by injection hj with hj; exact hj.trans e))) (And.intro hd5 (And.intro (hi4.keep f5 (fun b hb e => hr4 b hb e)) (And.intro hll4 (And.intro hr4 (And.intro (H3.out.2.2.2.2.2.1.trans F5 (fun _ _ q => q)) (And.intro hpt5 (And.intro hdt5 hlt5)))))))))
      obtain ⟨t0, t1, t2, t3, t4, t5, t6⟩ := rp_cells s5'
      clear ho4 hl4 hll4 hi4 hr4 hk4 B4 s5 f5 s5' F5 hd5 f4 HWO
      go_upto_region 18 with fail
      rw [← hw5]
      clear hw5 z3 x3 y0 y1 y2 y3 y4 y5 y6
      go_wp2_with fail
      refine HAS.out.mono ?_
      rintro e w6 ⟨bb, rfl, f6⟩
      have B6 := H5.out.1.keep f6 (fun q => q)
      have H6 := Lib.hid (And.intro B6 f6)
      clear f6 HAS t0 t1 t2 t3 t4 t5 t6
      have hb1q : ∀ j, (Value.slice (some ⟨b1, 0, none⟩) L.length c1).ownBlock = some j → j ≠ r := fun j hj e => H3.out.2.2.2.2.2.2.1 (by injection hj with hj; exact hj.trans e)
      have q8 := OT.i H5.out.2.2.2.2.2.2.2.2.1 H5.out.1
      have OT6 := Lib.hid (And.intro (H5.out.2.2.2.2.2.2.2.1.new H6.out.2) (And.intro (H5.out.2.2.2.2.2.2.2.2.1.new H6.out.2) (H5.out.2.2.2.2.2.2.2.2.2.new H6.out.2)))
      cases bb with
      | true =>
        have HB := Lib.hid (And.intro hb1q q8)
        clear B6 hb1q
        go_wp2_with fail
        refine ⟨⟨k + 1, by norm_cast, by omega, Lib.hid ?_, Lib.hid ((HF.out.trans H5.out.2.2.2.2.2.2.1 (fun _ _ q => q)).trans H6.out.2 (fun _ _ q => q.elim))⟩, ?_⟩
        · rw [HR.out.2.2.2.2.1]
          exact ⟨_, _, _, _, _, _, H6.out.1, H5.out.2.1.new H6.out.2, H5.out.2.2.1.keep H6.out.2 (fun _ _ q => q), by have := H3.out.2.2.2.1; omega, H5.out.2.2.2.1.keep H6.out.2 (fun _ _ q => q), H5.out.2.2.2.2.1, OT6.out.1, OT6.out.2.1, OT6.out.2.2⟩
        · simp only [intOf]
          omega
      | false =>
        have HINS := Lib.hid (insert_any (H5.out.2.2.1.keep H6.out.2 (fun _ _ q => q)) (by have := H3.out.2.2.2.1; omega) (nn : Int))
        have x2 := (rp_cells B6).2.2.1
        have HB := Lib.hid (And.intro hb1q q8)
        clear hb1q
        go_wp2_with fail
        refine HINS.out.mono ?_
        rintro e w7 ⟨v7, l7, rfl, hl7, hi7, hb7, f7⟩
        obtain ⟨_, A7, c7, hv7, _, _⟩ := id hi7
        obtain ⟨k7, hk7⟩ : ∃ k7, k7 = l7.length := ⟨_, rfl⟩
        rw [← hk7] at hv7
        subst hv7
        have B7 := H6.out.1.keep f7 (fun q => q)
        have z2 := B7.frozen 2
        have x2' := (rp_cells B7).2.2.1
        obtain ⟨s8, f8⟩ := rp_set B7 2 (.slice A7 k7 c7)
        have hr7 : ∀ b, (Value.slice A7 k7 c7).ownBlock = some b → b ≠ r := fun b hb => by have := (hb7 b hb).1; have := H6.out.1.lt; omega
        have F8 := (H6.out.2.trans f7 (fun _ _ q => q))
        have ht7 : OT 3 w7 (.slice A7 k7 c7) := fun b hb => (hb7 b hb).2
        have ht8 := ht7.keep f8 (fun b hb e => hr7 b hb e)
        have hp8 : OT 50 (w7.setCell ⟨r, 2, none⟩ (.slice A7 k7 c7)) (.slice (some ⟨b1, 0, none⟩) L.length c1) := (OT6.out.1.new f7).keep f8 (fun b hb e => HB.out.1 b hb e)
        have hl8 := (OT6.out.2.2.new f7).keep f8 (OT.i (OT6.out.2.2.new f7) B7)
        have H8 := Lib.hid (And.intro s8 (And.intro f8 (And.intro hr7 (And.intro F8 (And.intro hi7 (And.intro hl7 (And.intro hp8 (And.intro ht8 hl8))))))))
        clear s8 f8 hr7 F8 hi7 hl7 ht7 ht8 hp8 hl8 hb7 f7 B6 B7 hk7 HINS
        go_wp2_with fail
        refine ⟨⟨k + 1, by norm_cast, by omega, Lib.hid ?_, Lib.hid (((HF.out.trans H5.out.2.2.2.2.2.2.1 (fun _ _ q => q)).trans H8.out.2.2.2.1 (fun _ _ q => q.elim)).trans H8.out.2.1 (fun _ _ q => q))⟩, ?_⟩
        · rw [HR.out.2.2.2.2.1]
          exact ⟨_, _, _, _, _, _, H8.out.1, (H5.out.2.1.new H8.out.2.2.2.1).keep H8.out.2.1 (fun b hb e => HB.out.1 b hb e), H8.out.2.2.2.2.1.keep H8.out.2.1 (fun b hb e => H8.out.2.2.1 b hb e), by have := H3.out.2.2.2.1; have := H8.out.2.2.2.2.2.1; omega, (H5.out.2.2.2.1.keep H8.out.2.2.2.1 (fun _ _ q => q)).keep H8.out.2.1 (fun b hb e => H5.out.2.2.2.2.2.1 b hb e), H5.out.2.2.2.2.1, H8.out.2.2.2.2.2.2.1, H8.out.2.2.2.2.2.2.2.1, H8.out.2.2.2.2.2.2.2.2⟩
        · simp only [intOf]
          omega
    · obtain rfl : k = m := by omega
      have hall : ch.take k = ch := List.take_of_length_le (by have := H0.out.2.1; omega)
      have z1 := hC3.1.frozen 1
      have HE := Lib.hid (com_end (rp_set hC3.1 1 (.slice none 0 0)) hC3 HF.out (show P2 = setCh pg (ch.take k) by rw [hall]; exact H0.out.2.2.2.2.2))
      clear hlt hall hC3 HI
      go_wp2_with fail
      go_ret
      exact ⟨rfl, HE.out.2⟩
 · have hr' : ¬ room < (N0 : Int) := hr
   have hdr : decide (room < (N0 : Int)) = false := decide_eq_false hr
   obtain ⟨room2, hroom2⟩ : ∃ room2 : Int, room2 = room := ⟨_, rfl⟩
   have HS1 : Hid (CmC w r pg (.slice (some ⟨b, off, none⟩) m cc) M M fr z room2 vp vd vl di cl ∧ Fr (fun b => b = r) w w) := by
    obtain ⟨q1, q2, q3, q4, q5, q6, q7, s0, s1, s2, s3⟩ := H0.out.1
    exact Lib.hid ⟨⟨by rw [hroom2]; exact q1, q2, q4, q5, q6, q7, s0, s2, s3⟩, Fr.refl _ _⟩
   rw [← hroom2] at hr hr' hdr c6
   clear c0 c1 c2 c3 c4 c5 c6 hroom2
   obtain ⟨c0, c1, c2, c3, c4, c5, c6⟩ := rp_cells HS1.out.1.1
   have z6 := HS1.out.1.1.frozen 6
   obtain ⟨rm, hrm⟩ : ∃ rm, IntKind.i64.wrap (room2 - (N0 : Int)) = rm := ⟨_, rfl⟩
   obtain ⟨W2, hW2⟩ : ∃ W2, W2 = w.setCell ⟨r, 6, none⟩ (.int .i64 rm) := ⟨_, rfl⟩
   have hs6 := rp_set HS1.out.1.1 6 (.int .i64 rm)
   rw [← hW2] at hs6
   have hI : CmI W2 r pg (.slice (some ⟨b, off, none⟩) m cc) M M fr z := by
    obtain ⟨⟨q1, q2, q3, q4, q5, q6, q7, q8, q9⟩, q10⟩ := HS1.out
    exact ⟨_, _, _, _, _, _, hs6.1, q2.keep hs6.2 (q7.p q1), q3.keep hs6.2 (q8.i q1), q4, q5.keep hs6.2 (q9.i q1), q6, q7.keep hs6.2 (q7.p q1), q8.keep hs6.2 (q8.i q1), q9.keep hs6.2 (q9.i q1)⟩
   have HS2 := Lib.hid (And.intro hI (HS1.out.2.trans hs6.2 (fun _ _ q => q)))
   clear hI hs6
   go_upto_region 11 with fail
   clear hr hr' hdr
   rw [← hW2]
   clear hW2 hrm c0 c1 c2 c3 c4 c5 c6 z6
   go_wp2_with fail
   go_loopw [4] (fun i wr => ∃ k : Nat, i = .int .i64 k ∧ k ≤ m ∧ Hid (CmI wr r (setCh pg (ch.take k)) (.slice (some ⟨b, off, none⟩) m cc) (M + k) M fr z) ∧ Hid (Fr (fun b => b = r) w wr)) (fun i _ => m - (intOf i).toNat)
   case atStart => exact ⟨0, rfl, Nat.zero_le _, Lib.hid (by rw [Nat.add_zero]; exact HS2.out.1), Lib.hid HS2.out.2⟩
   case round =>
    clear HS1 HS2
    obtain ⟨k, rfl, hk, HI, HF⟩ := hrel
    obtain ⟨room3, vp3, vd3, vl3, di3, cl3, hC3⟩ := HI.out
    obtain ⟨k0, k1, k2, k3, k4, k5, k6⟩ := rp_cells hC3.1
    by_cases hlt : k < m
    · obtain ⟨c, hc⟩ : ∃ c, ch[k]? = some c := ⟨_, List.getElem?_eq_getElem (by have := H0.out.2.1; omega)⟩
      obtain ⟨hcl, hcr⟩ := H0.out.2.2.1 k c hc
      have hcn := H0.out.2.2.2.1 c (List.mem_of_getElem? hc)
      obtain ⟨nn, hnn⟩ : ∃ nn : Nat, c.n = nn := ⟨c.n.toNat, by omega⟩
      obtain ⟨pp, hpp⟩ : ∃ pp, pp = c.p := ⟨_, rfl⟩
      have hbr : b ≠ r := OT.c H0.out.1.2.2.2.2.2.2.2.2.1 H0.out.1.1 b rfl
      have hcrW : ∀ W, Fr (fun b => b = r) w W → W.cell? ⟨b, off + k * 513, none⟩ = some (.int .i64 (nn : Nat)) ∧ W.rangeAt b (off + k * 513 + 1) (cellsB pp) := fun W f => by
       have hx : W.rangeAt b (off + k * 513) (chC c) := fun j u hj => (f.cell (World.block_lt_of_cell? w _ (hcr j u hj)) hbr).trans (hcr j u hj)
       refine ⟨by have := hx 0 _ rfl; rw [← hnn]; exact this, fun j u hj => ?_⟩
       have := hx (j + 1) u (by rw [hpp] at hj; simpa [chC] using hj)
       rwa [show off + k * 513 + (j + 1) = off + k * 513 + 1 + j by omega] at this
      obtain ⟨L, hL⟩ : ∃ L, L = setCh pg (ch.take k) := ⟨_, rfl⟩
      rw [← hL] at hC3
      have hLl : L.length = pg.length := by rw [hL, setCh_len]
      have hL5 : ∀ y ∈ L, y.length = 512 := by obtain ⟨_, _, _, _, _, q, _⟩ := hC3.2.1; exact q
      have hnext : setCh pg (ch.take (k + 1)) = L.set nn pp := by
       rw [List.take_add_one, hc]
       show setCh pg (ch.take k ++ [c]) = _
       rw [setCh_snoc, ← hL, hnn, hpp]
       rfl
      have hnL : (nn : Int) < (L.length : Int) := by omega
      have HPL := Lib.hid (show pp.length = 512 by rw [hpp]; exact hcl)
      have hk5 := (hcrW wr HF.out).1
      have hk0 : (0 : Int) ≤ (k : Int) := by omega
      have hkm : (k : Int) < (m : Int) := by omega
      have HR := Lib.hid (And.intro hC3 (And.intro hcrW (And.intro hLl (And.intro hL5 (And.intro hnext (And.intro hC3.1.lt H0.out.2.2.2.2.1))))))
      clear hc hcl hcr hcn hnn hpp hbr hcrW hL hLl hL5 hnext hC3 hlt HI
      go_upto_region 16 with (at_builtin; refine wpList_app_pages rfl (.tmp 67) rfl rfl HR.out.1.2.1 (by have := HR.out.2.2.1; have := HR.out.2.2.2.2.2.2; omega) (by have := HR.out.2.2.1; have := HR.out.2.2.2.2.2.2; omega) ?_; intro b1 c1 w1 ho f1 hb1; have hB1 := HR.out.1.1.keep f1 (fun q => q); have z0 := hB1.frozen 0; have x0 := (rp_cells hB1).1; have H1 := Lib.hid (And.intro ho (And.intro f1 (And.intro hb1 hB1))); clear ho f1 hb1 hB1)
      obtain ⟨s2, f2⟩ := rp_set H1.out.2.2.2 0 (.slice (some ⟨b1, 0, none⟩) L.length c1)
      obtain ⟨w2, hw2⟩ : ∃ w2, w2 = w1.setCell ⟨r, 0, none⟩ (.slice (some ⟨b1, 0, none⟩) L.length c1) := ⟨_, rfl⟩
      rw [← hw2] at s2 f2 ⊢
      have hb1r : b1 ≠ r := by have := H1.out.2.2.1; have := HR.out.2.2.2.2.2.1; omega
      have fd : Fr (fun _ => False) w2 w2.drew := (Fr.refl (fun _ => False) w2).drew
      have s2' : RpB w2.drew r (.slice (some ⟨b1, 0, none⟩) L.length c1) (.slice (some ⟨b, off, none⟩) m cc) vd3 vl3 fr z room3 := Blk.keep (show RpB w2 r (.slice (some ⟨b1, 0, none⟩) L.length c1) (.slice (some ⟨b, off, none⟩) m cc) vd3 vl3 fr z room3 from s2) fd (fun q => q)
      have ho2 := own_keep (own_keep H1.out.1 f2 (fun j hj e => hb1r (by injection hj with hj; exact hj.trans e))) fd (fun _ _ q => q)
      obtain ⟨hth, ho3, f3⟩ := own_page (i := nn) (x := pp) ho2 HR.out.2.2.2.1 rfl (by omega) HPL.out
      obtain ⟨W3, hW3⟩ : ∃ W3, W3 = w2.drew.setCells b1 (nn * 512) (cellsB pp) := ⟨_, rfl⟩
      rw [← hW3] at ho3 f3
      have F2 : Fr (fun b => b = r) wr w2.drew := ((H1.out.2.1.mono (fun _ _ q => q.elim)).trans f2 (fun _ _ q => q)).trans fd (fun _ _ q => q.elim)
      have F3 : Fr (fun b => b = r) wr W3 := F2.trans f3 (fun j hj e => by have := H1.out.2.2.1; omega)
      have s3 : RpB W3 r (.slice (some ⟨b1, 0, none⟩) L.length c1) (.slice (some ⟨b, off, none⟩) m cc) vd3 vl3 fr z room3 := s2'.keep f3 (fun e => hb1r e.symm)
      have HSR := Lib.hid (And.intro (And.intro (rp_cells s2').1 (And.intro (rp_cells s2').2.1 (HR.out.2.1 w2.drew (HF.out.trans F2 (fun _ _ q => q))).2)) (And.intro (And.intro (rp_cells s3).1 (And.intro (rp_cells s3).2.1 (HR.out.2.1 W3 (HF.out.trans F3 (fun _ _ q => q))).2)) hth))
      have hpv := pgsV_own (L := L.set nn pp) (by rw [List.length_set]; exact ho3) (fun y hy => by
       rcases List.mem_or_eq_of_mem_set hy with q | q
       · exact HR.out.2.2.2.1 y q
       · rw [q]; exact HPL.out)
      obtain ⟨q1, q2, q3, q4, q5, q6, q7, q8, q9⟩ := HR.out.1
      have hd3 := q3.keep F3 (q8.i q1)
      have hl3 := q5.keep F3 (q9.i q1)
      have q83 := q8.keep F3 (q8.i q1)
      have hpt : OT 50 W3 (.slice (some ⟨b1, 0, none⟩) L.length c1) := OT.own ho3
      have HWO := Lib.hid (without_any hl3.1 (by omega) (nn : Int))
      have H3 := Lib.hid (And.intro s3 (And.intro hpv (And.intro hd3 (And.intro q4 (And.intro q6 (And.intro F3 (And.intro hb1r (And.intro hpt q83))))))))
      obtain ⟨y0, y1, y2, y3, y4, y5, y6⟩ := rp_cells s3
      clear s2 f2 hw2 fd s2' ho2 hth ho3 f3 F2 F3 s3 hpv q1 q2 q3 q4 q5 q6 q7 q8 q9 q83 hpt hd3 hl3 z0 x0 k0 k1 k2 k3 k4 k5 k6 hk5
      (try simp only [Act.put, List.setIfInBounds_toArray, List.set_cons_zero, List.set_cons_succ])
      refine wp_region_held_drew (S := fun w' => w'.cell? ⟨r, 0, none⟩ = some (.slice (some ⟨b1, 0, none⟩) L.length c1) ∧ w'.cell? ⟨r, 1, none⟩ = some (.slice (some ⟨b, off, none⟩) m cc) ∧ w'.rangeAt b (off + k * 513 + 1) (cellsB pp)) (by kernel_rfl) HSR.out.1 (fun hS0 => ?_)
      refine anyH_tk 0 71 (.pointer (some ⟨r, 0, none⟩)) rfl rfl (.inl ⟨by rfl, fun w'' hS => by go_simp⟩) hS0 ?_
      (simp only [sA, sB, sC])
      refine anyH_tk 1 72 (.pointer (some ⟨r, 0, none⟩)) rfl rfl (.inl ⟨by rfl, fun w'' hS => by go_simp⟩) hS0 ?_
      (simp only [sA, sB, sC])
      refine anyH_tk 2 73 (.pointer (some ⟨r, 0, none⟩)) rfl rfl (.inl ⟨by rfl, fun w'' hS => by go_simp⟩) hS0 ?_
      (simp only [sA, sB, sC])
      refine anyH_tk 3 74 (.slice (some ⟨b1, 0, none⟩) L.length c1) rfl rfl (.inl ⟨by rfl, fun w'' hS => by have q0 := hS.1; go_simp⟩) hS0 ?_
      (simp only [sA, sB, sC])
      refine anyH_tk 4 75 (.int .i64 (nn : Nat)) rfl rfl (.inl ⟨by rfl, fun w'' hS => by go_simp⟩) hS0 ?_
      (simp only [sA, sB, sC])
      refine anyH_tk 5 76 (.pointer (some ⟨r, 0, none⟩)) rfl rfl (.inl ⟨by rfl, fun w'' hS => by go_simp⟩) hS0 ?_
      (simp only [sA, sB, sC])
      refine anyH_tk 6 77 (.pointer (some ⟨r, 0, none⟩)) rfl rfl (.inl ⟨by rfl, fun w'' hS => by go_simp⟩) hS0 ?_
      (simp only [sA, sB, sC])
      refine anyH_tk 7 78 (.pointer (some ⟨r, 1, none⟩)) rfl rfl (.inl ⟨by rfl, fun w'' hS => by go_simp⟩) hS0 ?_
      (simp only [sA, sB, sC])
      refine anyH_tk 8 79 (.slice (some ⟨b, off, none⟩) m cc) rfl rfl (.inl ⟨by rfl, fun w'' hS => by have q0 := hS.2.1; go_simp⟩) hS0 ?_
      (simp only [sA, sB, sC])
      refine anyH_tk 9 80 (.int .i64 (k : Nat)) rfl rfl (.inl ⟨by rfl, fun w'' hS => by go_simp⟩) hS0 ?_
      (simp only [sA, sB, sC])
      refine anyH_tk 10 81 (.pointer (some ⟨b, off + k * 513, none⟩)) rfl rfl (.inl ⟨by rfl, fun w'' hS => by go_simp⟩) hS0 ?_
      (simp only [sA, sB, sC])
      refine anyH_tk 11 82 (.pointer (some ⟨b, off + k * 513 + 1, none⟩)) rfl rfl (.inl ⟨by rfl, fun w'' hS => by go_simp⟩) hS0 ?_
      (simp only [sA, sB, sC])
      refine anyH_tk 12 83 (av pp) rfl rfl (.inl ⟨by rfl, fun w'' hS => run_load_mid 50 _ rfl b (off + k * 513 + 1) rfl (cellsB pp) _ hS.2.2 Tryz.underlying50 rfl (by rw [infoPgS, cellsB_len, HPL.out])⟩) hS0 ?_
      (simp only [sA, sB, sC])
      refine anyH_tk 13 84 (.pointer (some ⟨b1, nn * 512, none⟩)) rfl rfl (.inl ⟨by rfl, fun w'' hS => by go_simp⟩) hS0 ?_
      (simp only [sA, sB, sC])
      refine anyH_skip 14 (w2.drew.setCells b1 (nn * 512) (cellsB pp)) (by kernel_rfl) rfl rfl (by rfl) (run_store_mid 50 _ _ rfl b1 (nn * 512) (cellsB pp).toArray rfl rfl (by simp only [List.size_toArray, cellsB_len, HPL.out]; exact HSR.out.2.2) (by rw [infoPgS]; simp [cellsB_len, HPL.out]) (all_oneCell_toArray (cellsB_one _))) (by rw [← hW3]; exact HSR.out.2.1) ?_
      (try (simp only [sA, sB, sC]))
      refine wpAnyH_done (by kernel_rfl) ?_ _
      clear hS0
      rw [← hW3]
      clear hW3

      go_wp2_with fail
      refine HWO.out.mono ?_
      rintro e w4 ⟨v4, rfl, ho4, f4⟩
      obtain ⟨A4, c4, hv4, _, _⟩ := own_slice ho4
      obtain ⟨l4, hl4⟩ : ∃ l4, l4 = (cl3.filter fun z => decide (z ≠ (nn : Int))) := ⟨_, rfl⟩
      have hll4 : l4.length ≤ M := by rw [hl4]; exact Nat.le_trans (List.length_filter_le _ _) H3.out.2.2.2.2.1
      rw [← hl4] at ho4 hv4
      have hi4 := intsN_own ho4
      have hr4 : ∀ b, v4.ownBlock = some b → b ≠ r := fun b hb => by have := own_low ho4 hb; have := H3.out.1.lt; omega
      obtain ⟨k4, hk4⟩ : ∃ k4, k4 = l4.length := ⟨_, rfl⟩
      rw [← hk4] at hv4
      subst hv4
      have B4 : RpB w4 r (.slice (some ⟨b1, 0, none⟩) L.length c1) (.slice (some ⟨b, off, none⟩) m cc) vd3 vl3 fr z room3 := H3.out.1.keep f4 (fun q => q)
      have z3 := B4.frozen 3
      have x3 := (rp_cells B4).2.2.2.1
      obtain ⟨s5, f5⟩ := rp_set B4 3 (.slice A4 k4 c4)
      obtain ⟨w5, hw5⟩ : ∃ w5, w5 = w4.setCell ⟨r, 3, none⟩ (.slice A4 k4 c4) := ⟨_, rfl⟩
      rw [← hw5] at s5 f5
      have s5' : RpB w5 r (.slice (some ⟨b1, 0, none⟩) L.length c1) (.slice (some ⟨b, off, none⟩) m cc) vd3 (.slice A4 k4 c4) fr z room3 := s5
      have F5 : Fr (fun b => b = r) W3 w5 := (f4.mono (fun _ _ q => q.elim)).trans f5 (fun _ _ q => q)
      have hlt5 : OT 3 w5 (.slice A4 k4 c4) := (OT.own ho4).keep f5 (fun b hb e => hr4 b hb e)
      have hdt5 : OT 3 w5 vd3 := H3.out.2.2.2.2.2.2.2.2.keep F5 (OT.i H3.out.2.2.2.2.2.2.2.2 H3.out.1)
      have hpt5 : OT 50 w5 (.slice (some ⟨b1, 0, none⟩) L.length c1) := H3.out.2.2.2.2.2.2.2.1.keep F5 (OT.p H3.out.2.2.2.2.2.2.2.1 H3.out.1)
      have hd5 := H3.out.2.2.1.keep F5 (OT.i H3.out.2.2.2.2.2.2.2.2 H3.out.1)
      have HAS := Lib.hid (rhas6_any hd5.1 (by have := H3.out.2.2.2.1; omega) (nn : Int))
      have H5 := Lib.hid (And.intro s5' (And.intro (H3.out.2.1.keep F5 (fun j hj e => H3.out.2.2.2.2.2.2.1 (by injection hj with hj; exact hj.trans e))) (And.intro hd5 (And.intro (hi4.keep f5 (fun b hb e => hr4 b hb e)) (And.intro hll4 (And.intro hr4 (And.intro (H3.out.2.2.2.2.2.1.trans F5 (fun _ _ q => q)) (And.intro hpt5 (And.intro hdt5 hlt5)))))))))
      obtain ⟨t0, t1, t2, t3, t4, t5, t6⟩ := rp_cells s5'
      clear ho4 hl4 hll4 hi4 hr4 hk4 B4 s5 f5 s5' F5 hd5 f4 HWO
      go_upto_region 18 with fail
      rw [← hw5]
      clear hw5 z3 x3 y0 y1 y2 y3 y4 y5 y6
      go_wp2_with fail
      refine HAS.out.mono ?_
      rintro e w6 ⟨bb, rfl, f6⟩
      have B6 := H5.out.1.keep f6 (fun q => q)
      have H6 := Lib.hid (And.intro B6 f6)
      clear f6 HAS t0 t1 t2 t3 t4 t5 t6
      have hb1q : ∀ j, (Value.slice (some ⟨b1, 0, none⟩) L.length c1).ownBlock = some j → j ≠ r := fun j hj e => H3.out.2.2.2.2.2.2.1 (by injection hj with hj; exact hj.trans e)
      have q8 := OT.i H5.out.2.2.2.2.2.2.2.2.1 H5.out.1
      have OT6 := Lib.hid (And.intro (H5.out.2.2.2.2.2.2.2.1.new H6.out.2) (And.intro (H5.out.2.2.2.2.2.2.2.2.1.new H6.out.2) (H5.out.2.2.2.2.2.2.2.2.2.new H6.out.2)))
      cases bb with
      | true =>
        have HB := Lib.hid (And.intro hb1q q8)
        clear B6 hb1q
        go_wp2_with fail
        refine ⟨⟨k + 1, by norm_cast, by omega, Lib.hid ?_, Lib.hid ((HF.out.trans H5.out.2.2.2.2.2.2.1 (fun _ _ q => q)).trans H6.out.2 (fun _ _ q => q.elim))⟩, ?_⟩
        · rw [HR.out.2.2.2.2.1]
          exact ⟨_, _, _, _, _, _, H6.out.1, H5.out.2.1.new H6.out.2, H5.out.2.2.1.keep H6.out.2 (fun _ _ q => q), by have := H3.out.2.2.2.1; omega, H5.out.2.2.2.1.keep H6.out.2 (fun _ _ q => q), H5.out.2.2.2.2.1, OT6.out.1, OT6.out.2.1, OT6.out.2.2⟩
        · simp only [intOf]
          omega
      | false =>
        have HINS := Lib.hid (insert_any (H5.out.2.2.1.keep H6.out.2 (fun _ _ q => q)) (by have := H3.out.2.2.2.1; omega) (nn : Int))
        have x2 := (rp_cells B6).2.2.1
        have HB := Lib.hid (And.intro hb1q q8)
        clear hb1q
        go_wp2_with fail
        refine HINS.out.mono ?_
        rintro e w7 ⟨v7, l7, rfl, hl7, hi7, hb7, f7⟩
        obtain ⟨_, A7, c7, hv7, _, _⟩ := id hi7
        obtain ⟨k7, hk7⟩ : ∃ k7, k7 = l7.length := ⟨_, rfl⟩
        rw [← hk7] at hv7
        subst hv7
        have B7 := H6.out.1.keep f7 (fun q => q)
        have z2 := B7.frozen 2
        have x2' := (rp_cells B7).2.2.1
        obtain ⟨s8, f8⟩ := rp_set B7 2 (.slice A7 k7 c7)
        have hr7 : ∀ b, (Value.slice A7 k7 c7).ownBlock = some b → b ≠ r := fun b hb => by have := (hb7 b hb).1; have := H6.out.1.lt; omega
        have F8 := (H6.out.2.trans f7 (fun _ _ q => q))
        have ht7 : OT 3 w7 (.slice A7 k7 c7) := fun b hb => (hb7 b hb).2
        have ht8 := ht7.keep f8 (fun b hb e => hr7 b hb e)
        have hp8 : OT 50 (w7.setCell ⟨r, 2, none⟩ (.slice A7 k7 c7)) (.slice (some ⟨b1, 0, none⟩) L.length c1) := (OT6.out.1.new f7).keep f8 (fun b hb e => HB.out.1 b hb e)
        have hl8 := (OT6.out.2.2.new f7).keep f8 (OT.i (OT6.out.2.2.new f7) B7)
        have H8 := Lib.hid (And.intro s8 (And.intro f8 (And.intro hr7 (And.intro F8 (And.intro hi7 (And.intro hl7 (And.intro hp8 (And.intro ht8 hl8))))))))
        clear s8 f8 hr7 F8 hi7 hl7 ht7 ht8 hp8 hl8 hb7 f7 B6 B7 hk7 HINS
        go_wp2_with fail
        refine ⟨⟨k + 1, by norm_cast, by omega, Lib.hid ?_, Lib.hid (((HF.out.trans H5.out.2.2.2.2.2.2.1 (fun _ _ q => q)).trans H8.out.2.2.2.1 (fun _ _ q => q.elim)).trans H8.out.2.1 (fun _ _ q => q))⟩, ?_⟩
        · rw [HR.out.2.2.2.2.1]
          exact ⟨_, _, _, _, _, _, H8.out.1, (H5.out.2.1.new H8.out.2.2.2.1).keep H8.out.2.1 (fun b hb e => HB.out.1 b hb e), H8.out.2.2.2.2.1.keep H8.out.2.1 (fun b hb e => H8.out.2.2.1 b hb e), by have := H3.out.2.2.2.1; have := H8.out.2.2.2.2.2.1; omega, (H5.out.2.2.2.1.keep H8.out.2.2.2.1 (fun _ _ q => q)).keep H8.out.2.1 (fun b hb e => H5.out.2.2.2.2.2.1 b hb e), H5.out.2.2.2.2.1, H8.out.2.2.2.2.2.2.1, H8.out.2.2.2.2.2.2.2.1, H8.out.2.2.2.2.2.2.2.2⟩
        · simp only [intOf]
          omega
    · obtain rfl : k = m := by omega
      have hall : ch.take k = ch := List.take_of_length_le (by have := H0.out.2.1; omega)
      have z1 := hC3.1.frozen 1
      have HE := Lib.hid (com_end (rp_set hC3.1 1 (.slice none 0 0)) hC3 HF.out (show P2 = setCh pg (ch.take k) by rw [hall]; exact H0.out.2.2.2.2.2))
      clear hlt hall hC3 HI
      go_wp2_with fail
      go_ret
      exact ⟨rfl, HE.out.2⟩
end
end Go.Proofs.YtcnlgbjkjlbmbaaGreat

