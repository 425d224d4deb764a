/- The law FareAlike, of what fare's calls answer. -/
import Derived.Test.YtfonchobolhkoaaDoorFr3
namespace Go.Proofs.YtfonchobolhkoaaDoor
open Go.RowKit

/-- Three lists of one's own, apart. -/
structure Rows3 (w wr : World) (p q r : Value) (xs ys ns : List Int) : Prop where
  ra : RowI wr w.heap.size p xs
  rb : RowI wr w.heap.size q ys
  rc : RowN wr w.heap.size r ns
  ap : ∀ j, p.ownBlock = some j → q.ownBlock ≠ some j
  fr : Fr (fun _ => False) w wr
section
variable {w wr w3 : World} {p q r v3 : Value} {xs ys ns : List Int} {u : Int}
theorem Rows3.keep (h : Rows3 w wr p q r xs ys ns) (f : Fr (fun _ => False) wr w3) : Rows3 w w3 p q r xs ys ns := ⟨h.ra.keep0 f, h.rb.keep0 f, h.rc.keep0 f, h.ap, h.fr.trans f (fun _ _ q => q)⟩
theorem Rows3.two (h : Rows3 w wr p q r xs ys ns) : Rows2 w wr p q xs ys := ⟨h.ra, h.rb, h.ap, h.fr⟩
theorem Rows3.pushA (h : Rows3 w wr p q r xs ys ns) (h3 : RowI w3 w.heap.size v3 (xs ++ [u])) (hg : (wr.alloc (.cells #[.int .i64 u] 2)).grownBy w3 p.ownBlock)
    (hat : v3.ownBlock = p.ownBlock ∨ v3.ownBlock = some (wr.alloc (.cells #[.int .i64 u] 2)).heap.size) : Rows3 w w3 v3 q r (xs ++ [u]) ys ns := by
  have h2 := h.two.push h3 hg hat
  have fa : Fr (fun _ => False) wr (wr.alloc (.cells #[.int .i64 u] 2)) := (Fr.refl _ wr).alloc _
  have f3 : Fr (fun k => p.ownBlock = some k) wr w3 := (fa.mono (fun _ _ q => q.elim)).grown hg (fun k hk => .inl hk)
  exact ⟨h2.rs, h2.rl, h.rc.keep f3 (fun k hk q => rowIN h.ra h.rc q hk), h2.ap, h2.fr⟩
theorem Rows3.pushB (h : Rows3 w wr p q r xs ys ns) (h3 : RowI w3 w.heap.size v3 (ys ++ [u])) (hg : (wr.alloc (.cells #[.int .i64 u] 2)).grownBy w3 q.ownBlock)
    (hat : v3.ownBlock = q.ownBlock ∨ v3.ownBlock = some (wr.alloc (.cells #[.int .i64 u] 2)).heap.size) : Rows3 w w3 p v3 r xs (ys ++ [u]) ns := by
  have h2 := (h.two.swap.push h3 hg hat).swap
  have fa : Fr (fun _ => False) wr (wr.alloc (.cells #[.int .i64 u] 2)) := (Fr.refl _ wr).alloc _
  have f3 : Fr (fun k => q.ownBlock = some k) wr w3 := (fa.mono (fun _ _ q => q.elim)).grown hg (fun k hk => .inl hk)
  exact ⟨h2.rs, h2.rl, h.rc.keep f3 (fun k hk e => rowIN h.rb h.rc e hk), h2.ap, h2.fr⟩
theorem Rows3.pushC (h : Rows3 w wr p q r xs ys ns) (h3 : RowN w3 w.heap.size v3 (ns ++ [u])) (hg : (wr.alloc (.cells #[.int .i64 u] 3)).grownBy w3 r.ownBlock) : Rows3 w w3 p q v3 xs ys (ns ++ [u]) := by
  have fa : Fr (fun _ => False) wr (wr.alloc (.cells #[.int .i64 u] 3)) := (Fr.refl _ wr).alloc _
  have f3 : Fr (fun k => r.ownBlock = some k) wr w3 := (fa.mono (fun _ _ q => q.elim)).grown hg (fun k hk => .inl hk)
  exact ⟨h.ra.keep f3 (fun k hk e => rowIN h.ra h.rc hk e), h.rb.keep f3 (fun k hk e => rowIN h.rb h.rc hk e), h3, h.ap, h.fr.trans f3 (fun i hi e => by have := h.rc.low e; omega)⟩
end
theorem deal_up {l : List Nat} {n : Nat} (hl : l.length ≤ 64) (hx : ∀ x ∈ l, x ≤ 1000000000000) (hs : 0 < sumN l) (hn : n ≤ 1000000000000) : dealE (n : Int) (upI l) = 0 ∧ dealR (n : Int) (upI l) = upI (dealL n l) := by
  have hm := may_up hx hs
  have h : dealE (n : Int) (upI l) = 0 := by unfold dealE; rw [if_neg (by simp; omega), if_neg (by rw [hm]; simp), if_pos (by omega)]
  refine ⟨h, ?_⟩
  unfold dealR
  rw [h, if_pos rfl, up_nat, Int.toNat_natCast]
theorem getD_snoc (d : Nat) (l : List Nat) (x k : Nat) (h : l[k]? = some x) : l.getD k d = x := by rw [List.getD_eq_getElem?_getD, h]; rfl
set_option maxRecDepth 100000 in
set_option maxHeartbeats 8000000 in
theorem falike (P : FareP) {w : World} {v u : Value} {zs ps : List Int} (a t : Int) (ha0 : -9223372036854775808 ≤ a) (ha1 : a ≤ 9223372036854775807) (hv : IntsAt w v zs) (hu : IntsAt w u ps) (hvk : Vok w) : Calls Tryd.prog 5 #[.int .i64 a, v, .int .i64 t, u] w (Tru w) := by
  have HK := Lib.hid (fun W (fk : Fr (fun _ => False) w W) => fknown P W (hvk.keep fk))
  clear hvk
  have HV := Lib.hid hv
  have HU := Lib.hid hu
  obtain ⟨A, c1, rfl, hml, _⟩ := hv
  obtain ⟨A', c1', rfl, hml', _⟩ := hu
  obtain ⟨m, hm⟩ : ∃ m, m = zs.length := ⟨_, rfl⟩
  obtain ⟨np, hnp⟩ : ∃ m, m = ps.length := ⟨_, rfl⟩
  rw [← hm] at HV ⊢
  rw [← hnp] at HU ⊢
  by_cases h1 : 30 < m
  · have h1i : (30 : Int) < (m : Int) := by omega
    clear hm hnp hml hml' h1 ha0 ha1
    go_enter Tryd.func5, Tryd.ntmps5
    go_wp2_with fail
    refine (HK.out _ (Fr.refl _ _)).mono ?_
    rintro e wk ⟨rfl, fk⟩
    have HFK := Lib.hid (fk)
    clear fk
    go_wp2_with fail
    go_ret
    exact ⟨rfl, HFK.out⟩
  have h1i : ¬ (30 : Int) < (m : Int) := by omega
  by_cases h1' : 30 < np
  · have h2i : (30 : Int) < (np : Int) := by omega
    clear hm hnp hml hml' h1 h1' ha0 ha1
    go_enter Tryd.func5, Tryd.ntmps5
    go_wp2_with fail
    refine (HK.out _ (Fr.refl _ _)).mono ?_
    rintro e wk ⟨rfl, fk⟩
    have HFK := Lib.hid (fk)
    clear fk
    go_wp2_with fail
    go_ret
    exact ⟨rfl, HFK.out⟩
  have h2i : ¬ (30 : Int) < (np : Int) := by omega
  have HW := Lib.hid (rmayw_any HV.out (by omega))
  cases hmw : mayW zs with
  | false =>
    rw [hmw] at HW
    clear hm hnp hml hml' h1 h1' ha0 ha1 hmw
    go_enter Tryd.func5, Tryd.ntmps5
    go_wp2_with fail
    refine HW.out.mono ?_
    rintro e w1 ⟨rfl, rfl⟩
    go_wp2_with fail
    refine (HK.out _ (Fr.refl _ _)).mono ?_
    rintro e wk ⟨rfl, fk⟩
    have HFK := Lib.hid (fk)
    clear fk
    go_wp2_with fail
    go_ret
    exact ⟨rfl, HFK.out⟩
  | true =>
    rw [hmw] at HW
    by_cases b1 : a < 0
    · clear hm hnp hml hml' h1 h1' ha0 ha1 hmw
      go_enter Tryd.func5, Tryd.ntmps5
      go_wp2_with fail
      refine HW.out.mono ?_
      rintro e w1 ⟨rfl, rfl⟩
      go_wp2_with fail
      refine (HK.out _ (Fr.refl _ _)).mono ?_
      rintro e wk ⟨rfl, fk⟩
      have HFK := Lib.hid (fk)
      clear fk
      go_wp2_with fail
      go_ret
      exact ⟨rfl, HFK.out⟩
    by_cases b2 : 1000000000000 < a
    · clear hm hnp hml hml' h1 h1' ha0 ha1 hmw
      go_enter Tryd.func5, Tryd.ntmps5
      go_wp2_with fail
      refine HW.out.mono ?_
      rintro e w1 ⟨rfl, rfl⟩
      go_wp2_with fail
      refine (HK.out _ (Fr.refl _ _)).mono ?_
      rintro e wk ⟨rfl, fk⟩
      have HFK := Lib.hid (fk)
      clear fk
      go_wp2_with fail
      go_ret
      exact ⟨rfl, HFK.out⟩
    by_cases b3 : t < 1
    · clear hm hnp hml hml' h1 h1' ha0 ha1 hmw
      go_enter Tryd.func5, Tryd.ntmps5
      go_wp2_with fail
      refine HW.out.mono ?_
      rintro e w1 ⟨rfl, rfl⟩
      go_wp2_with fail
      refine (HK.out _ (Fr.refl _ _)).mono ?_
      rintro e wk ⟨rfl, fk⟩
      have HFK := Lib.hid (fk)
      clear fk
      go_wp2_with fail
      go_ret
      exact ⟨rfl, HFK.out⟩
    by_cases b4 : 1000 < t
    · clear hm hnp hml hml' h1 h1' ha0 ha1 hmw
      go_enter Tryd.func5, Tryd.ntmps5
      go_wp2_with fail
      refine HW.out.mono ?_
      rintro e w1 ⟨rfl, rfl⟩
      go_wp2_with fail
      refine (HK.out _ (Fr.refl _ _)).mono ?_
      rintro e wk ⟨rfl, fk⟩
      have HFK := Lib.hid (fk)
      clear fk
      go_wp2_with fail
      go_ret
      exact ⟨rfl, HFK.out⟩
    obtain ⟨n, rfl⟩ : ∃ n : Nat, a = n := ⟨a.toNat, by omega⟩
    obtain ⟨tn, rfl⟩ : ∃ n : Nat, t = n := ⟨t.toNat, by omega⟩
    obtain ⟨k1, k2, k3⟩ := may_nats hmw
    obtain ⟨ws, hws⟩ : ∃ ws, ws = zs.map Int.toNat := ⟨_, rfl⟩
    rw [← hws] at k1 k2 k3
    rw [← k1] at HV
    have hwl : ws.length = m := by rw [hws, List.length_map, hm]
    obtain ⟨z, hz⟩ : ∃ z : Nat → Nat, z = fun (i : Nat) => ps.count (i : Int) := ⟨_, rfl⟩
    have hzs : ∀ k, sumN ((List.range k).map z) ≤ np := fun k => by rw [hz, hnp]; exact count_sum ps k
    have hm1 : 0 < m := by
      rw [← hwl]
      cases ws with
      | nil => simp at k3
      | cons _ _ => simp
    have HP := Lib.hid (fun W v l (hv : IntsAt W v l) (hl : l.length ≤ 100000) => P.deal W (n : Int) v l ha0 ha1 hv hl)
    have HS := Lib.hid (And.intro hwl (And.intro k2 (And.intro k3 (And.intro hzs (And.intro hnp (And.intro hz hm1))))))
    have hn9 : n ≤ 1000000000000 := by omega
    have HN9 := Lib.hid hn9
    have hm9 : m ≤ 30 := by omega
    have hp9 : np ≤ 30 := by omega
    have ht1 : (1 : Int) ≤ (tn : Int) := by omega
    have ht2 : (tn : Int) ≤ 1000 := by omega
    clear hm hnp hml hml' h1 h1' ha0 ha1 hmw k1 k2 k3 hws hwl hz hzs hm1 hn9
    go_enter Tryd.func5, Tryd.ntmps5
    go_wp2_with fail
    refine HW.out.mono ?_
    rintro e w1 ⟨rfl, rfl⟩
    go_wp2_with fail
    clear HW
    go_loopw [9, 10, 11, 12] (fun p q r x wr => ∃ k : Nat, x = .int .i64 k ∧ k ≤ m ∧ Hid (∀ y ∈ ws.take k, y ≤ 1000000000) ∧ Hid (Rows3 w wr p q r (upI ((ws.take k).map (· * tn))) (upI (withL 0 (fun i => ws.getD i 0) z k)) (upI ((List.range k).map (fromL z))))) (fun _ _ _ x _ => m - (intOf x).toNat)
    case atStart => exact ⟨0, rfl, Nat.zero_le _, Lib.hid (fun y hy => by simp at hy), Lib.hid ⟨RowI.nil _ _, RowI.nil _ _, RowN.nil _ _, fun j hj => by simp [Value.ownBlock] at hj, Fr.refl _ _⟩⟩
    case round =>
      obtain ⟨k, rfl, hk, HX9, HR⟩ := hrel
      by_cases hlt : k < m
      · obtain ⟨x1, hx1⟩ : ∃ x, ws[k]? = some x := ⟨_, List.getElem?_eq_getElem (by rw [HS.out.1]; exact hlt)⟩
        obtain ⟨A1, cc, e1, _, hA1⟩ := HV.out
        obtain ⟨b1', o1, e4, hc1⟩ := hA1 (by simp [HS.out.1]; omega)
        obtain ⟨e2, e3⟩ : A = A1 ∧ c1 = cc := by injection e1 with x y z; exact ⟨x, z⟩
        rw [e4] at e2
        subst e2 e3
        have hcc := hc1 k x1 (by simp [hx1])
        have HC1 : Hid (∀ W, Fr (fun _ => False) w W → W.cell? ⟨b1', o1 + k, none⟩ = some (.int .i64 (x1 : Nat))) := Lib.hid (fun W g => (g.cell (World.block_lt_of_cell? w _ hcc) (fun q => q)).trans hcc)
        have hd1 := HC1.out _ HR.out.fr
        have hk0 : (0 : Int) ≤ (k : Int) := by omega
        have hkm : (k : Int) < (m : Int) := by omega
        have HKI := Lib.hid (And.intro hx1 hlt)
        clear hx1 e1 e4 hA1 hc1 hcc
        by_cases hbig : 1000000000 < x1
        · have hbi : (1000000000 : Int) < (x1 : Int) := by omega
          clear hlt hbig
          go_wp2_with fail
          refine (HK.out _ HR.out.fr).mono ?_
          rintro e wk ⟨rfl, fk⟩
          have HFK := Lib.hid (HR.out.fr.trans fk (fun _ _ q => q))
          clear fk
          go_wp2_with fail
          go_ret
          exact ⟨rfl, HFK.out⟩
        · have hbi : ¬ (1000000000 : Int) < (x1 : Int) := by omega
          obtain ⟨y, hy⟩ : ∃ y, y = x1 * tn := ⟨_, rfl⟩
          have hyb : y ≤ 1000000000000 := by
            rw [hy]
            have := Nat.mul_le_mul (show x1 ≤ 1000000000 by omega) (show tn ≤ 1000 by omega)
            omega
          have hyi : (x1 : Int) * (tn : Int) = (y : Int) := by rw [hy]; norm_cast
          have hw1 : IntKind.i64.wrap ((x1 : Int) * (tn : Int)) = (y : Int) := by rw [hyi]; exact wrapI_id (by omega) (by omega)
          have hw2 : wrap64 ((x1 : Int) * (tn : Int)) = (y : Int) := by rw [hyi]; exact wrap64_id (by omega) (by omega)
          have hdc : decide ((1000000000 : Int) < (x1 : Int)) = false := decide_eq_false hbi
          have hdn : decide (1000000000 < x1) = false := decide_eq_false hbig
          have HX2 : Hid (∀ y ∈ ws.take (k + 1), y ≤ 1000000000) := Lib.hid (fun y hy => by
            rw [List.take_add_one, HKI.out.1] at hy
            rcases List.mem_append.1 hy with q | q
            · exact HX9.out y q
            · have : y = x1 := by simpa using q
              omega)
          have hta : upI ((ws.take k).map (· * tn)) ++ [(y : Int)] = upI ((ws.take (k + 1)).map (· * tn)) := by rw [List.take_add_one, HKI.out.1, hy]; simp
          have hsl := slice_of_i64 (y : Int) wr
          have hcu : (wr.alloc (.cells #[.int .i64 (y : Int)] 2)).cell? ⟨wr.heap.size, 0, none⟩ = some (.int .i64 (y : Int)) := by
            rw [(Blk.new wr 2 #[.int .i64 (y : Int)]).cell]
            rfl
          have fa : Fr (fun _ => False) wr (wr.alloc (.cells #[.int .i64 (y : Int)] 2)) := (Fr.refl _ wr).alloc _
          have HA2 := Lib.hid (And.intro (HR.out.ra.keep0 fa) (And.intro hcu (And.intro (Nat.le_trans HR.out.fr.size fa.size) (And.intro hta (show (upI ((ws.take k).map (· * tn))).length ≤ 100000 by simp; omega)))))
          clear hy hyb hyi hcu fa hta hlt hbig
          go_wp2_with (first
            | (at_builtin; refine wpList_push_i64 rfl (.tmp 64) (.tmp 71) rfl rfl HA2.out.1 rfl HA2.out.2.1 HA2.out.2.2.2.2 HA2.out.2.2.1 ?_; intro v3 w3 ho3 hg3 hat3; have hR3 := HR.out.pushA ho3 hg3 hat3; rw [HA2.out.2.2.2.1] at hR3; have HR3 := Lib.hid hR3; clear ho3 hg3 hat3 hR3 hsl hd1 hw1 hw2))
          go_loopw [10, 13] (fun q x wr => ∃ j : Nat, x = .int .i64 j ∧ j ≤ np ∧ Hid (Rows3 w wr v3 q u11 (upI ((ws.take (k + 1)).map (· * tn))) (upI (withL 0 (fun i => ws.getD i 0) z k ++ List.replicate ((ps.take j).count (k : Int)) 0)) (upI ((List.range k).map (fromL z))))) (fun _ x _ => np - (intOf x).toNat)
          case atStart => exact ⟨0, rfl, Nat.zero_le _, Lib.hid (by simpa using HR3.out)⟩
          case round =>
            obtain ⟨j, rfl, hj, HR4⟩ := hrel
            by_cases hjm : j < np
            · obtain ⟨pj, hpj⟩ : ∃ x, ps[j]? = some x := ⟨_, List.getElem?_eq_getElem (by rw [← HS.out.2.2.2.2.1]; exact hjm)⟩
              obtain ⟨A2, cc, e1, _, hA2⟩ := HU.out
              obtain ⟨b2', o2, e4, hc2⟩ := hA2 (by rw [← HS.out.2.2.2.2.1]; omega)
              obtain ⟨e2, e3⟩ : A' = A2 ∧ c1' = cc := by injection e1 with x y z; exact ⟨x, z⟩
              rw [e4] at e2
              subst e2 e3
              have hcc := hc2 j pj hpj
              have hd2 : wr.cell? ⟨b2', o2 + j, none⟩ = some (.int .i64 pj) := (HR4.out.fr.cell (World.block_lt_of_cell? w _ hcc) (fun q => q)).trans hcc
              have hj0 : (0 : Int) ≤ (j : Int) := by omega
              have hjj : (j : Int) < (np : Int) := by omega
              have htp : (ps.take (j + 1)).count (k : Int) = (ps.take j).count (k : Int) + if pj = (k : Int) then 1 else 0 := by
                rw [List.take_add_one, hpj, List.count_append]
                simp [List.count_cons]
              have hll : (withL 0 (fun i => ws.getD i 0) z k ++ List.replicate ((ps.take j).count (k : Int)) 0).length ≤ 100000 := by
                rw [List.length_append, withL_length, List.length_replicate]
                have h1 := HS.out.2.2.2.1 k
                have h2 : (ps.take j).count (k : Int) ≤ (ps.take j).length := List.count_le_length
                rw [List.length_take] at h2
                omega
              have HJ := Lib.hid (And.intro htp (And.intro hjm hll))
              clear hpj e1 e4 hA2 hc2 hcc htp hjm hll
              by_cases hpe : pj = (k : Int)
              · have hbe : (pj == (k : Int)) = true := by rw [beq_iff_eq]; exact hpe
                have hsl := slice_of_i64 (0 : Int) wr
                have hcu : (wr.alloc (.cells #[.int .i64 (0 : Int)] 2)).cell? ⟨wr.heap.size, 0, none⟩ = some (.int .i64 (0 : Int)) := by
                  rw [(Blk.new wr 2 #[.int .i64 (0 : Int)]).cell]
                  rfl
                have fa : Fr (fun _ => False) wr (wr.alloc (.cells #[.int .i64 (0 : Int)] 2)) := (Fr.refl _ wr).alloc _
                have htb : upI (withL 0 (fun i => ws.getD i 0) z k ++ List.replicate ((ps.take j).count (k : Int)) 0) ++ [(0 : Int)] = upI (withL 0 (fun i => ws.getD i 0) z k ++ List.replicate ((ps.take (j + 1)).count (k : Int)) 0) := by
                  rw [HJ.out.1, if_pos hpe, List.replicate_succ']
                  simp [upI]
                have HA3 := Lib.hid (And.intro (HR4.out.rb.keep0 fa) (And.intro hcu (And.intro (Nat.le_trans HR4.out.fr.size fa.size) (And.intro htb (show (upI (withL 0 (fun i => ws.getD i 0) z k ++ List.replicate ((ps.take j).count (k : Int)) 0)).length ≤ 100000 by rw [List.length_map]; exact HJ.out.2.2)))))
                clear hcu fa htb hpe
                go_wp2_with (first
                  | (at_builtin; refine wpList_push_i64 rfl (.tmp 85) (.tmp 86) rfl rfl HA3.out.1 rfl HA3.out.2.1 HA3.out.2.2.2.2 HA3.out.2.2.1 ?_; intro v4 w4 ho4 hg4 hat4; have hR5 := HR4.out.pushB ho4 hg4 hat4; rw [HA3.out.2.2.2.1] at hR5; have HR5 := Lib.hid hR5; clear ho4 hg4 hat4 hR5 hsl hd2))
                refine ⟨⟨j + 1, by norm_cast, by have := HJ.out.2.1; omega, HR5⟩, ?_⟩
                simp only [intOf]
                have := HJ.out.2.1
                omega
              · have hbe : (pj == (k : Int)) = false := by rw [beq_eq_false_iff_ne]; exact hpe
                have HR5 : Hid (Rows3 w wr v3 u10 u11 (upI ((ws.take (k + 1)).map (· * tn))) (upI (withL 0 (fun i => ws.getD i 0) z k ++ List.replicate ((ps.take (j + 1)).count (k : Int)) 0)) (upI ((List.range k).map (fromL z)))) := Lib.hid (by
                  rw [HJ.out.1, if_neg hpe, Nat.add_zero]
                  exact HR4.out)
                clear hpe
                go_wp2_with fail
                refine ⟨⟨j + 1, by norm_cast, by have := HJ.out.2.1; omega, HR5⟩, ?_⟩
                simp only [intOf]
                have := HJ.out.2.1
                omega
            · obtain rfl : j = np := by omega
              have hzk : (ps.take j).count (k : Int) = z k := by
                rw [List.take_of_length_le (by rw [← HS.out.2.2.2.2.1]; exact Nat.le_refl _), HS.out.2.2.2.2.2.1]
              have hR6 := HR4.out
              rw [hzk] at hR6
              obtain ⟨q, hq⟩ : ∃ q, q = fromL z k := ⟨_, rfl⟩
              have hlen : (upI (withL 0 (fun i => ws.getD i 0) z k ++ List.replicate (z k) 0)).length = q := by
                rw [List.length_map, List.length_append, List.length_replicate, fromL_eq, hq]
              have hq9 : q ≤ 100 := by
                rw [← hlen, List.length_map, List.length_append, List.length_replicate, withL_length]
                have h1 := HS.out.2.2.2.1 (k + 1)
                rw [List.range_succ, List.map_append, sumN_app] at h1
                simp at h1
                omega
              obtain ⟨A4, c4, rfl, _⟩ := hR6.rb.slice
              rw [hlen] at hR6 ⊢
              have hd1 := HC1.out _ hR6.fr
              have hqi : (q : Int) ≤ 100 := by omega
              have hsl := slice_of_int (q : Int) wr
              have hcu : (wr.alloc (.cells #[.int .i64 (q : Int)] 3)).cell? ⟨wr.heap.size, 0, none⟩ = some (.int .i64 (q : Int)) := by
                rw [(Blk.new wr 3 #[.int .i64 (q : Int)]).cell]
                rfl
              have fa : Fr (fun _ => False) wr (wr.alloc (.cells #[.int .i64 (q : Int)] 3)) := (Fr.refl _ wr).alloc _
              have htc : upI ((List.range k).map (fromL z)) ++ [(q : Int)] = upI ((List.range (k + 1)).map (fromL z)) := by
                rw [List.range_succ, List.map_append, hq]
                simp [upI]
              have htb : upI (withL 0 (fun i => ws.getD i 0) z k ++ List.replicate (z k) 0) ++ [(x1 : Int)] = upI (withL 0 (fun i => ws.getD i 0) z (k + 1)) := by
                rw [withL, getD_snoc 0 ws x1 k HKI.out.1]
                simp [upI]
              have HR6 := Lib.hid hR6
              have HA5 := Lib.hid (And.intro (hR6.rc.keep0 fa) (And.intro hcu (And.intro (Nat.le_trans hR6.fr.size fa.size) (And.intro htc (And.intro (show (upI ((List.range k).map (fromL z))).length ≤ 100000 by simp; omega) htb)))))
              have HLQ : Hid ((upI (withL 0 (fun i => ws.getD i 0) z k ++ List.replicate (z k) 0)).length ≤ 100000) := Lib.hid (by rw [hlen]; omega)
              have hjn : ¬ (j : Int) < (j : Int) := by omega
              clear hzk hR6 hq hlen hq9 hcu fa htc htb hjm
              go_wp2_with (first
                | (at_builtin; refine wpList_push_int rfl (.tmp 88) (.tmp 91) rfl rfl HA5.out.1 rfl HA5.out.2.1 HA5.out.2.2.2.2.1 HA5.out.2.2.1 ?_; intro v5 w5 ho5 hg5 hat5; have hR7 := HR6.out.pushC ho5 hg5; rw [HA5.out.2.2.2.1] at hR7; have HR7 := Lib.hid hR7; have hsl5 := slice_of_i64 (x1 : Int) w5; have hd5 := HC1.out _ HR7.out.fr; have HA6 : Hid (RowI (w5.alloc (.cells #[.int .i64 (x1 : Int)] 2)) w.heap.size (.slice A4 q c4) (upI (withL 0 (fun i => ws.getD i 0) z k ++ List.replicate (z k) 0)) ∧ (w5.alloc (.cells #[.int .i64 (x1 : Int)] 2)).cell? ⟨w5.heap.size, 0, none⟩ = some (.int .i64 (x1 : Int)) ∧ w.heap.size ≤ (w5.alloc (.cells #[.int .i64 (x1 : Int)] 2)).heap.size) := Lib.hid ⟨HR7.out.rb.keep0 ((Fr.refl _ w5).alloc _), by rw [(Blk.new w5 2 #[.int .i64 (x1 : Int)]).cell]; rfl, Nat.le_trans HR7.out.fr.size ((Fr.refl (fun _ => False) w5).alloc _).size⟩; clear ho5 hg5 hat5 hR7 hsl hd1)
                | (at_builtin; refine wpList_push_i64 rfl (.tmp 93) (.tmp 98) rfl rfl HA6.out.1 rfl HA6.out.2.1 HLQ.out HA6.out.2.2 ?_; intro v6 w6 ho6 hg6 hat6; have hR8 := HR7.out.pushB ho6 hg6 hat6; rw [HA5.out.2.2.2.2.2] at hR8; have HR8 := Lib.hid hR8; clear ho6 hg6 hat6 hR8 hsl5 hd5))
              refine ⟨⟨k + 1, by norm_cast, by have := HKI.out.2; omega, HX2, HR8⟩, ?_⟩
              simp only [intOf]
              have := HKI.out.2
              omega
      · obtain rfl : m = k := by omega
        have htk : ws.take m = ws := List.take_of_length_le (by rw [HS.out.1]; exact Nat.le_refl _)
        have hr := HR.out
        rw [htk] at hr
        have htn : 0 < tn := by omega
        have hsm : 0 < sumN (ws.map (· * tn)) := by rw [sumN_mul]; exact Nat.mul_pos HS.out.2.2.1 htn
        have hrg : (List.range m).map (fun i => ws.getD i 0) = ws := by have := range_get ws 0; rw [HS.out.1] at this; exact this
        have hsw : 0 < sumN (withL 0 (fun i => ws.getD i 0) z m) := by rw [withL_sum, hrg]; exact HS.out.2.2.1
        have hx9 : ∀ y ∈ ws, y ≤ 1000000000 := by have := HX9.out; rw [htk] at this; exact this
        have hbm : ∀ y ∈ ws.map (· * tn), y ≤ 1000000000000 := fun y hy => by
          obtain ⟨x, hx, rfl⟩ := List.mem_map.1 hy
          have := Nat.mul_le_mul (hx9 x hx) (show tn ≤ 1000 by omega)
          omega
        have hbw : ∀ y ∈ withL 0 (fun i => ws.getD i 0) z m, y ≤ 1000000000000 := fun y hy => by
          rcases withL_mem hy with rfl | ⟨i, hi, rfl⟩
          · omega
          · have hi' : i < ws.length := by rw [HS.out.1]; exact hi
            show ws.getD i 0 ≤ _
            rw [List.getD_eq_getElem?_getD, List.getElem?_eq_getElem hi']
            exact HS.out.2.1 _ (List.getElem_mem hi')
        obtain ⟨Lw, hLw⟩ : ∃ L, L = (withL 0 (fun i => ws.getD i 0) z m).length := ⟨_, rfl⟩
        have hlw : Lw ≤ 60 := by rw [hLw, withL_length]; have := HS.out.2.2.2.1 m; omega
        obtain ⟨L, hL⟩ : ∃ L, L = dealL n ws := ⟨_, rfl⟩
        have d1 := deal_up (n := n) (l := ws) (by rw [HS.out.1]; omega) HS.out.2.1 HS.out.2.2.1 HN9.out
        have d2 := deal_up (n := n) (l := ws.map (· * tn)) (by rw [List.length_map, HS.out.1]; omega) hbm hsm HN9.out
        rw [deal_mul HS.out.2.2.1 htn] at d2
        have d3 := deal_up (n := n) (l := withL 0 (fun i => ws.getD i 0) z m) (by rw [← hLw]; omega) hbw hsw HN9.out
        have dw := deal_with (a := n) HS.out.2.2.1 z
        rw [HS.out.1] at dw
        rw [dw] at d3
        rw [← hL] at d1 d2 d3
        have hLl : L.length = m := by rw [hL, deal_len HS.out.2.2.1, HS.out.1]
        have hLs : sumN L = n := by rw [hL, deal_sum HS.out.2.2.1]
        have hl3 : (withL 0 (fun i => L.getD i 0) z m).length = Lw := by rw [hLw, withL_length, withL_length]
        have hl1 : (upI ws).length ≤ 100000 := by rw [List.length_map, HS.out.1]; omega
        have hl2 : (upI (ws.map (· * tn))).length ≤ 100000 := by rw [List.length_map, List.length_map, HS.out.1]; omega
        have hl4 : (upI (withL 0 (fun i => ws.getD i 0) z m)).length = Lw := by rw [List.length_map, ← hLw]
        have hl5 : (upI ((List.range m).map (fromL z))).length = m := by simp
        have hlF : ∀ t, t < m → (upI ((List.range m).map (fromL z)))[t]? = some ((fromL z t : Nat) : Int) := fun t ht => by simp [ht]
        obtain ⟨gF, cF, rfl, _⟩ := hr.rc.cell (hlF 0 HS.out.2.2.2.2.2.2)
        obtain ⟨A4, c4, rfl, _⟩ := hr.rb.slice
        rw [hl5, hl4] at hr ⊢
        have c1 := HP.out wr _ _ (HV.out.new0 hr.fr) hl1
        rw [d1.1, d1.2] at c1
        have HC1 := Lib.hid c1
        have HRW := Lib.hid hr
        have HD := Lib.hid (And.intro d2 (And.intro d3 (And.intro hl2 (And.intro hl4 hl5))))
        have HLF := Lib.hid (And.intro hlF (And.intro hLl (And.intro hLs hl3)))
        have hmm : ¬ (m : Int) < (m : Int) := by omega
        have hne : ((Lw : Int) != (Lw : Int)) = false := by simp
        clear htk hr hsm hrg hsw hx9 hbm hbw hLw d1 d2 d3 dw hL hLl hLs hl1 hl2 hl3 hl4 hl5 hlF c1 hlt HR HX9 hk
        go_wp2_with fail
        refine HC1.out.mono ?_
        rintro e w2 ⟨v2, rfl, hv2, f2⟩
        have hr2 := HRW.out.keep f2
        have c2 := HP.out w2 _ _ hr2.ra.ints HD.out.2.2.1
        rw [HD.out.1.1, HD.out.1.2] at c2
        have HC2 := Lib.hid c2
        have HR2 := Lib.hid (And.intro hv2 hr2)
        clear hv2 f2 hr2 c2 HC1 HRW
        go_wp2_with fail
        refine HC2.out.mono ?_
        rintro e w3 ⟨v3, rfl, hv3, f3⟩
        have hr3 := HR2.out.2.keep f3
        have h4i := hr3.rb.ints
        have c3 := HP.out w3 _ _ h4i (by rw [HD.out.2.2.2.1]; omega)
        rw [HD.out.2.1.1, HD.out.2.1.2] at c3
        have HC3 := Lib.hid c3
        have HR3 := Lib.hid (And.intro (HR2.out.1.new0 f3) (And.intro hv3 hr3))
        clear hv3 f3 hr3 c3 HC2 HR2 h4i
        go_wp2_with fail
        refine HC3.out.mono ?_
        rintro e w4 ⟨v4, rfl, hv4, f4⟩
        have hr4 := HR3.out.2.2.keep f4
        have hva := HR3.out.1.new0 f4
        have hvb := HR3.out.2.1.new0 f4
        have hLL : (upI L).length = m := by rw [List.length_map]; exact HLF.out.2.1
        have hLW : (upI (withL 0 (fun i => L.getD i 0) z m)).length = Lw := by rw [List.length_map]; exact HLF.out.2.2.2
        have hsm := lsame_any hva hvb (by rw [hLL]; omega) (by rw [hLL]; omega)
        rw [show decide (upI L = upI L) = true from decide_eq_true rfl] at hsm
        have hqb : ∀ t, t < m → fromL z t < Lw := fun t ht => by
          have := withL_get 0 (fun i => L.getD i 0) z m t ht
          obtain ⟨h, _⟩ := List.getElem?_eq_some_iff.1 this
          rw [HLF.out.2.2.2] at h
          exact h
        have hLw0 : 0 < Lw := Nat.lt_of_le_of_lt (Nat.zero_le _) (hqb 0 HS.out.2.2.2.2.2.2)
        obtain ⟨A5, cA, rfl, _, hA5⟩ := hva
        obtain ⟨bA, oA, rfl, hcA⟩ := hA5 (by rw [hLL]; exact HS.out.2.2.2.2.2.2)
        obtain ⟨A6, cC, rfl, _, hA6⟩ := hv4
        obtain ⟨bC, oC, rfl, hcC⟩ := hA6 (by rw [hLW]; exact hLw0)
        rw [hLL, hLW] at *
        have HCA : Hid (∀ W, Fr (fun _ => False) w4 W → ∀ (t x : Nat), L[t]? = some x → W.cell? ⟨bA, oA + t, none⟩ = some (.int .i64 (x : Nat))) := Lib.hid (fun W g t x hx => by
          have h := hcA t x (by simp [hx])
          exact (g.cell (World.block_lt_of_cell? w4 _ h) (fun q => q)).trans h)
        have HCC : Hid (∀ W, Fr (fun _ => False) w4 W → ∀ (t x : Nat), t < m → L[t]? = some x → W.cell? ⟨bC, oC + fromL z t, none⟩ = some (.int .i64 (x : Nat))) := Lib.hid (fun W g t x ht hx => by
          have h := hcC (fromL z t) x (by
            rw [List.getElem?_map, withL_get 0 (fun i => L.getD i 0) z m t ht, getD_snoc 0 L x t hx]
            rfl)
          exact (g.cell (World.block_lt_of_cell? w4 _ h) (fun q => q)).trans h)
        have HCF : Hid (∀ W, Fr (fun _ => False) w4 W → ∀ (t : Nat), t < m → W.cell? ⟨gF, t, none⟩ = some (.int .i64 (fromL z t : Nat))) := Lib.hid (fun W g t ht => by
          obtain ⟨g', c', e', h⟩ := hr4.rc.cell (HLF.out.1 t ht)
          obtain rfl : gF = g' := by injection e' with e1; injection e1 with e1; injection e1
          exact (g.cell (World.block_lt_of_cell? w4 _ h) (fun q => q)).trans h)
        have HSM := Lib.hid hsm
        have HFR := Lib.hid hr4.fr
        have HQB := Lib.hid hqb
        clear hr4 hvb hsm hqb hLw0 hA5 hcA hA6 hcC hLL hLW HC3 HR3 f4
        go_wp2_with fail
        refine HSM.out.mono ?_
        rintro e w5 ⟨rfl, f5⟩
        have HF5 := Lib.hid f5
        clear f5 HSM
        go_wp2_with fail
        go_loopw [20, 21] (fun y x wr => ∃ k t : Nat, x = .int .i64 k ∧ y = .int .i64 t ∧ k ≤ m ∧ Hid (t = sumN (L.take k)) ∧ Hid (Fr (fun _ => False) w4 wr)) (fun _ x _ => m - (intOf x).toNat)
        case atStart => exact ⟨0, 0, rfl, rfl, Nat.zero_le _, Lib.hid rfl, HF5⟩
        case round =>
          obtain ⟨k, t, rfl, rfl, hk, HT, HF⟩ := hrel
          by_cases hlt : k < m
          · obtain ⟨x1, hx1⟩ : ∃ x, L[k]? = some x := ⟨_, List.getElem?_eq_getElem (by rw [HLF.out.2.1]; exact hlt)⟩
            obtain ⟨q, hq⟩ : ∃ q, q = fromL z k := ⟨_, rfl⟩
            have hqL := HQB.out k hlt
            rw [← hq] at hqL
            have HQF : Hid (∀ W, Fr (fun _ => False) wr W → W.cell? ⟨gF, k, none⟩ = some (.int .i64 (q : Nat))) := Lib.hid (fun W g => by rw [hq]; exact HCF.out W (HF.out.trans g (fun _ _ q => q)) k hlt)
            have HQC : Hid (∀ W, Fr (fun _ => False) wr W → W.cell? ⟨bC, oC + q, none⟩ = some (.int .i64 (x1 : Nat))) := Lib.hid (fun W g => by rw [hq]; exact HCC.out W (HF.out.trans g (fun _ _ q => q)) k x1 hlt hx1)
            have HQA : Hid (∀ W, Fr (fun _ => False) wr W → W.cell? ⟨bA, oA + k, none⟩ = some (.int .i64 (x1 : Nat))) := Lib.hid (fun W g => HCA.out W (HF.out.trans g (fun _ _ q => q)) k x1 hx1)
            have hk0 : (0 : Int) ≤ (k : Int) := by omega
            have hkm : (k : Int) < (m : Int) := by omega
            have HKI := Lib.hid (And.intro hk0 (And.intro hkm hlt))
            have HQI := Lib.hid (And.intro (show (0 : Int) ≤ (q : Int) by omega) (And.intro (show (q : Int) < (Lw : Int) by omega) hqL))
            have hts : t + x1 = sumN (L.take (k + 1)) := by rw [List.take_add_one, hx1, HT.out]; exact (sumN_snoc _ _).symm
            have htb : t + x1 ≤ n := by rw [hts, ← HLF.out.2.2.1]; exact sumN_take _ _
            have hn9 := HN9.out
            have hti : (t : Int) ≤ 1000000000000 := by omega
            have hxi : (x1 : Int) ≤ 1000000000000 := by omega
            have HTS := Lib.hid hts
            clear hx1 hq hqL hts htb hlt hn9
            go_upto_region 27 with fail
            refine wp_region_held_drew (S := fun w' => Fr (fun _ => False) wr w') (by kernel_rfl) ((Fr.refl _ wr).drew) (fun hS0 => ?_)
            refine anyH_take 0 147 (.slice (some ⟨bC, oC, none⟩) Lw cC) rfl rfl (by kernel_rfl) (by kernel_rfl) (by kernel_rfl) (fun _ _ _ h => h) (.inl ⟨by rfl, fun w'' hS => by go_simp⟩) hS0 ?_
            (simp only [List.setIfInBounds_toArray, List.set_cons_zero, List.set_cons_succ])
            refine anyH_take 1 148 (.slice (some ⟨gF, 0, none⟩) m cF) rfl rfl (by kernel_rfl) (by kernel_rfl) (by kernel_rfl) (fun _ _ _ h => h) (.inl ⟨by rfl, fun w'' hS => by go_simp⟩) hS0 ?_
            (simp only [List.setIfInBounds_toArray, List.set_cons_zero, List.set_cons_succ])
            refine anyH_take 2 149 (.int .i64 (k : Nat)) rfl rfl (by kernel_rfl) (by kernel_rfl) (by kernel_rfl) (fun _ _ _ h => h) (.inl ⟨by rfl, fun w'' hS => by go_simp⟩) hS0 ?_
            (simp only [List.setIfInBounds_toArray, List.set_cons_zero, List.set_cons_succ])
            refine anyH_take 3 150 (.pointer (some ⟨gF, k, none⟩)) rfl rfl (by kernel_rfl) (by kernel_rfl) (by kernel_rfl) (fun _ _ _ h => h) (.inl ⟨by rfl, fun w'' hS => by have q0 := HKI.out.1; have q1 := HKI.out.2.1; have q2 := HKI.out.2.2; go_simp⟩) hS0 ?_
            (simp only [List.setIfInBounds_toArray, List.set_cons_zero, List.set_cons_succ])
            refine anyH_take 4 151 (.int .i64 (q : Nat)) rfl rfl (by kernel_rfl) (by kernel_rfl) (by kernel_rfl) (fun _ _ _ h => h) (.inl ⟨by rfl, fun w'' hS => by have q0 := HQF.out _ hS; go_simp⟩) hS0 ?_
            (simp only [List.setIfInBounds_toArray, List.set_cons_zero, List.set_cons_succ])
            refine anyH_take 5 152 (.pointer (some ⟨bC, oC + q, none⟩)) rfl rfl (by kernel_rfl) (by kernel_rfl) (by kernel_rfl) (fun _ _ _ h => h) (.inl ⟨by rfl, fun w'' hS => by have q0 := HQI.out.1; have q1 := HQI.out.2.1; have q2 := HQI.out.2.2; go_simp⟩) hS0 ?_
            (simp only [List.setIfInBounds_toArray, List.set_cons_zero, List.set_cons_succ])
            refine anyH_take 6 153 (.int .i64 (x1 : Nat)) rfl rfl (by kernel_rfl) (by kernel_rfl) (by kernel_rfl) (fun _ _ _ h => h) (.inl ⟨by rfl, fun w'' hS => by have q0 := HQC.out _ hS; go_simp⟩) hS0 ?_
            (simp only [List.setIfInBounds_toArray, List.set_cons_zero, List.set_cons_succ])
            refine anyH_take 7 154 (.slice (some ⟨bA, oA, none⟩) m cA) rfl rfl (by kernel_rfl) (by kernel_rfl) (by kernel_rfl) (fun _ _ _ h => h) (.inl ⟨by rfl, fun w'' hS => by go_simp⟩) hS0 ?_
            (simp only [List.setIfInBounds_toArray, List.set_cons_zero, List.set_cons_succ])
            refine anyH_take 8 155 (.int .i64 (k : Nat)) rfl rfl (by kernel_rfl) (by kernel_rfl) (by kernel_rfl) (fun _ _ _ h => h) (.inl ⟨by rfl, fun w'' hS => by go_simp⟩) hS0 ?_
            (simp only [List.setIfInBounds_toArray, List.set_cons_zero, List.set_cons_succ])
            refine anyH_take 9 156 (.pointer (some ⟨bA, oA + k, none⟩)) rfl rfl (by kernel_rfl) (by kernel_rfl) (by kernel_rfl) (fun _ _ _ h => h) (.inl ⟨by rfl, fun w'' hS => by have q0 := HKI.out.1; have q1 := HKI.out.2.1; have q2 := HKI.out.2.2; go_simp⟩) hS0 ?_
            (simp only [List.setIfInBounds_toArray, List.set_cons_zero, List.set_cons_succ])
            refine anyH_take 10 157 (.int .i64 (x1 : Nat)) rfl rfl (by kernel_rfl) (by kernel_rfl) (by kernel_rfl) (fun _ _ _ h => h) (.inl ⟨by rfl, fun w'' hS => by have q0 := HQA.out _ hS; go_simp⟩) hS0 ?_
            (simp only [List.setIfInBounds_toArray, List.set_cons_zero, List.set_cons_succ])
            refine anyH_take 11 158 (.bool false) rfl rfl (by kernel_rfl) (by kernel_rfl) (by kernel_rfl) (fun _ _ _ h => h) (.inl ⟨by rfl, fun w'' hS => by go_simp⟩) hS0 ?_
            (simp only [List.setIfInBounds_toArray, List.set_cons_zero, List.set_cons_succ])
            refine wpAnyH_done (by kernel_rfl) ?_ _
            have hcA2 := HQA.out _ hS0
            have HF2 := Lib.hid (HF.out.trans hS0 (fun _ _ q => q))
            clear hS0
            go_wp2_with fail
            refine ⟨⟨k + 1, t + x1, by norm_cast, by norm_cast, by have := HKI.out.2.2; omega, HTS, HF2⟩, ?_⟩
            simp only [intOf]
            have := HKI.out.2.2
            omega
          · obtain rfl : k = m := by omega
            have ht : t = n := by rw [HT.out, List.take_of_length_le (by rw [HLF.out.2.1]; exact Nat.le_refl _), HLF.out.2.2.1]
            subst ht
            have hb : ((t : Int) == (t : Int)) = true := by simp
            have hbn : (t == t) = true := by simp
            clear hlt
            go_wp2_with fail
            refine (HK.out _ (HFR.out.trans HF.out (fun _ _ q => q))).mono ?_
            rintro e wk ⟨rfl, fk⟩
            have HFK := Lib.hid ((HFR.out.trans HF.out (fun _ _ q => q)).trans fk (fun _ _ q => q))
            clear fk
            go_wp2_with fail
            go_ret
            exact ⟨rfl, HFK.out⟩
end Go.Proofs.YtfonchobolhkoaaDoor
