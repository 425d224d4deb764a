/- wal: the records that sectors say, one by one. -/
import Derived.Test.YtjdbgojnpnlblaaGreatVri
namespace Go.Proofs.YtjdbgojnpnlblaaGreat
open Go.RowKit
attribute [local go_sem] Oper.semAt_some

def slLen : Value → Nat
  | .slice _ n _ => n
  | _ => 0
set_option maxRecDepth 100000 in
set_option maxHeartbeats 4000000 in
theorem records1_in (G : Nat → Prop) (L Bl Bh c s B0 : Nat) {ss : List (List UInt8)} {W : World} {v : Value} (hb : ∀ b, v.ownBlock = some b → ¬ (G b ∨ b = L)) (hBl : ¬ (G Bl ∨ Bl = L)) (hBh : ¬ (G Bh ∨ Bh = L))
    (hcl : W.cell? ⟨Bl, 0, none⟩ = some v) (hc0 : W.cell? ⟨Bh, 0, none⟩ = some (.int .u64 (c : Nat))) (hc1 : W.cell? ⟨Bh, 1, none⟩ = some (.int .u64 (s : Nat))) (hsec : SecV W v ss) (hlen : ss.length ≤ 8192) (hB0 : B0 ≤ W.heap.size) (J : List Rcd → World → Prop)
    (hJ : ∀ s A B, J s A → Fr (fun _ => False) A B → J s B)
    (hY : ∀ pre x W1, J pre W1 → (x.Is B0 W1 ∧ pre.length ≤ 8192 ∧ (pre.map (·.k)).sum + x.k ≤ 8192) → YieldAt Fence.wide 8 Tryz.prog L (encR x) W1 fun e W' => e = .returned (.bool true) ∧ J (pre ++ [x]) W' ∧ Fr (fun k => G k ∨ k = L) W1 W') (h0 : J [] W) :
    CallsIn Fence.wide 9 Tryz.prog 73 #[.func (.yield L) #[] #[], .pointer (some ⟨Bl, 0, none⟩), .pointer (some ⟨Bh, 0, none⟩)] W fun e W' => (∃ v, e = .returned v) ∧ ∃ xs : List Rcd, xs.map (fun x => (x.r, x.k)) = recs c s ss ∧ J xs W' := by
  obtain ⟨rr, hrr⟩ : ∃ rr, rr = recs c s ss := ⟨_, rfl⟩
  rw [← hrr]
  have HC := Lib.hid (And.intro hb (And.intro hBl (And.intro hBh (And.intro hc0 (And.intro hc1 (And.intro hsec (And.intro hB0 hrr)))))))
  clear hb hBl hBh hc0 hc1 hsec hB0 hrr
  have hvs : ∃ A n cap, v = .slice A n cap := by
    obtain ⟨A, cap, e, _⟩ := HC.out.2.2.2.2.2.1
    exact ⟨A, _, cap, e⟩
  obtain ⟨A0, n0, cap0, rfl⟩ := hvs
  refine callsIn_of_wp Tryz.func73 rfl trivial ?_ rfl
  simp only [Tryz.ntmps73, List.size_toArray, List.length_cons, List.length_nil, Nat.reduceAdd, Nat.reduceSub, Array.replicate_succ, Array.replicate_zero, List.push_toArray, List.append_toArray, List.nil_append, List.cons_append]
  gi_wp2
  gi_loopw [4, 5] (fun t q wr => ∃ (k : Nat) (pre : List Rcd) (rest : List (List UInt8)) (f : Nat) (A : Option Addr) (n cap : Nat), q = .int .i64 k ∧ t = .slice A n cap ∧ Hid (SecV wr (.slice A n cap) rest ∧ ∀ b, (Value.slice A n cap).ownBlock = some b → (Value.slice A0 n0 cap0).ownBlock = some b) ∧ Hid (J pre wr) ∧
    Hid (pre.map (fun x => (x.r, x.k)) ++ recsFrom c s f k rest = rr ∧ rest.length < f ∧ n = rest.length ∧ pre.length = k ∧ (pre.map (·.k)).sum + n = ss.length) ∧ k + n ≤ 8192 ∧ Hid (Fr (fun k => G k ∨ k = L) W wr))
    (fun t _ _ => slLen t)
  case atStart =>
    obtain ⟨A1, cap1, e, e1, e2, e3⟩ := HC.out.2.2.2.2.2.1
    injection e with e4 e5 e6
    exact ⟨0, [], ss, ss.length + 1, A0, n0, cap0, rfl, rfl, Lib.hid ⟨HC.out.2.2.2.2.2.1, fun b hb => hb⟩, Lib.hid h0, Lib.hid ⟨by rw [HC.out.2.2.2.2.2.2.2]; rfl, Nat.lt_succ_self _, e5, rfl, by simpa using e5⟩, by omega, Lib.hid (Fr.refl _ _)⟩
  case round =>
    obtain ⟨k, pre, rest, f, A, n, cap, rfl, rfl, HS, HJ, HR, hkn, HF⟩ := hrel
    clear h0 hcl
    have HJN := Lib.hid (join_any (secV_in HS.out.1) (by have := HR.out.2.2.1; omega))
    obtain ⟨f, rfl⟩ : ∃ f', f = f' + 1 := ⟨f - 1, by have := HR.out.2.1; omega⟩
    gi_wp2
    refine ⟨trivial, (callsIn_wide.2 HJN.out).mono ?_⟩
    rintro e w2 ⟨g1, g2, g3⟩
    cases hj : joinOf rest with
    | none =>
      obtain rfl := g1 hj
      have hend : pre.map (fun x => (x.r, x.k)) = rr := by
        rw [← HR.out.1, recsFrom, hj]
        simp
      have HE := Lib.hid (And.intro hend (hJ _ _ _ HJ.out (g3.alloc (.cells #[.int .u64 0, .int .i64 0] 91))))
      clear hend g1 g2 g3 hj HJN
      gi_wp2
      refine bodyPost_ret (results_none rfl _ _ _) rfl ?_
      exact ⟨⟨_, rfl⟩, pre, HE.out.1, HE.out.2⟩
    | some b =>
      obtain ⟨Ab, rfl, hrb⟩ := g2 b hj
      have hjl := join_long HS.out.1.all128 hj
      have hrec : recsFrom c s (f + 1) k rest = (if (tagAt rest).2 = k ∧ s ≤ (tagAt rest).1 ∧ (tagAt rest).1 ≤ c then
        match recOf b with
        | none => []
        | some r => (r, needN (b.length : Nat)) :: recsFrom c s f (k + 1) (rest.drop (needN (b.length : Nat)))
        else []) := by
        rw [recsFrom, hj]
        rfl
      obtain ⟨tc, htc⟩ : ∃ tc, tc = (tagAt rest).1 := ⟨_, rfl⟩
      obtain ⟨tn, htn⟩ : ∃ tn, tn = (tagAt rest).2 := ⟨_, rfl⟩
      obtain ⟨lg, hlg⟩ : ∃ lg, lg = needN (b.length : Nat) := ⟨_, rfl⟩
      rw [← htc, ← htn, ← hlg] at hrec
      rw [← hlg] at hjl
      rw [← htc, ← htn, ← hlg]
      have hf3 : Fr (fun _ => False) wr (w2.alloc (.cells #[.int .u64 (tc : Nat), .int .i64 (tn : Nat)] 91)) := g3.alloc _
      have e0 := (((HF.out.trans hf3 (fun _ _ q => q.elim)).cell (p := ⟨Bh, 0, none⟩) (World.block_lt_of_cell? W _ HC.out.2.2.2.1) HC.out.2.2.1)).trans HC.out.2.2.2.1
      have e1 := (((HF.out.trans hf3 (fun _ _ q => q.elim)).cell (p := ⟨Bh, 1, none⟩) (World.block_lt_of_cell? W _ HC.out.2.2.2.2.1) HC.out.2.2.1)).trans HC.out.2.2.2.2.1
      have hrb3 := hrb.keep ((Fr.refl (fun _ => False) w2).alloc (.cells #[.int .u64 (tc : Nat), .int .i64 (tn : Nat)] 91)) (fun _ _ q => q)
      have H3 := Lib.hid (And.intro hf3 (And.intro hrb3 (And.intro hjl hrec)))
      clear hf3 hrb3 hjl hrec g1 g2 g3 hj HJN hrb htc htn hlg
      by_cases q1 : tn = k
      · subst q1
        by_cases q2 : tc < s
        · have q2' : (tc : Int) < (s : Int) := by omega
          have hend : pre.map (fun x => (x.r, x.k)) = rr := by rw [← HR.out.1, H3.out.2.2.2, if_neg (by omega)]; simp
          have HE := Lib.hid (And.intro hend (hJ _ _ _ HJ.out H3.out.1))
          clear hend
          gi_wp2
          refine bodyPost_ret (results_none rfl _ _ _) rfl ?_
          exact ⟨⟨_, rfl⟩, pre, HE.out.1, HE.out.2⟩
        · have q2' : ¬ (tc : Int) < (s : Int) := by omega
          by_cases q3 : c < tc
          · have q3' : (c : Int) < (tc : Int) := by omega
            have hend : pre.map (fun x => (x.r, x.k)) = rr := by rw [← HR.out.1, H3.out.2.2.2, if_neg (by omega)]; simp
            have HE := Lib.hid (And.intro hend (hJ _ _ _ HJ.out H3.out.1))
            clear hend
            gi_wp2
            refine bodyPost_ret (results_none rfl _ _ _) rfl ?_
            exact ⟨⟨_, rfl⟩, pre, HE.out.1, HE.out.2⟩
          · have q3' : ¬ (c : Int) < (tc : Int) := by omega
            have hrec := H3.out.2.2.2
            rw [if_pos (by omega)] at hrec
            have HO := Lib.hid (of_any H3.out.2.1 (Nat.le_refl _) (by have := H3.out.2.2.1.1; omega))
            have HRE := Lib.hid hrec
            clear hrec
            gi_wp2
            refine ⟨trivial, (callsIn_wide.2 HO.out).mono ?_⟩
            rintro e w4 ⟨o1, o2, o3⟩
            have hf4 := H3.out.1.trans o3 (fun _ _ q => q)
            have hJ4 := hJ _ _ _ HJ.out hf4
            cases hro : recOf b with
            | none =>
              obtain rfl := o1 hro
              have hend : pre.map (fun x => (x.r, x.k)) = rr := by rw [← HR.out.1, HRE.out, hro]; simp
              have HE := Lib.hid (And.intro hend hJ4)
              clear hend o1 o2 o3 hf4 hJ4 hro HO
              gi_wp2
              all_goals
                rename_i K0 hK0 x1 x2 x3 x4
                refine ⟨fun f hf => (by cases hf), hK0 _ _ ?_⟩
                clear hK0 x4
                gi_wp2
                refine bodyPost_ret (results_none rfl _ _ _) rfl ?_
                exact ⟨⟨_, rfl⟩, pre, HE.out.1, HE.out.2⟩
            | some r =>
              obtain ⟨vr, rfl, hv1, hv2⟩ := o2 r hro
              have hwr := HF.out.size
              have hrs : recsFrom c s (f + 1) tn rest = (r, lg) :: recsFrom c s f (tn + 1) (rest.drop lg) := by rw [HRE.out, hro]
              obtain ⟨fn, tmps, assign, body, hy, hR⟩ := hY pre ⟨vr, r, lg⟩ w4 hJ4 ⟨⟨hv1, fun b' hb' => by
                have h1 := (hv2 b' hb').1
                have h2 := H3.out.1.size
                have h3 := HC.out.2.2.2.2.2.2.1
                exact ⟨by omega, (hv2 b' hb').2⟩⟩, by have := HR.out.2.2.2.1; omega, by show (pre.map (·.k)).sum + lg ≤ 8192; have := HR.out.2.2.2.2; have := HR.out.2.2.1; have := H3.out.2.2.1; omega⟩
              obtain ⟨A', hsl, hs1, hs2⟩ := slice_secV HS.out.1 lg H3.out.2.2.1.2.2
              have HN := Lib.hid (And.intro hrs (And.intro hs1 (And.intro hs2 hf4)))
              clear hrs hs1 hs2 hf4 hv1 hv2 o1 o2 o3 hro hJ4 HO e0 e1
              dsimp only [encR] at hy
              gi_wp2
              refine hR.mono ?_
              rintro e W5 ⟨rfl, hJ5, hF5⟩
              have hF6 := (HF.out.trans HN.out.2.2.2 (fun _ _ q => q.elim)).trans hF5 (fun _ _ q => q)
              have HJ5 := Lib.hid hJ5
              have HF6 := Lib.hid hF6
              have HF5 := Lib.hid hF5
              clear hJ5 hF6 hF5 hy hR
              gi_wp2
              go_roundw
              case rel =>
                have hS5 : SecV W5 (.slice A' (n - lg) (cap - lg)) (rest.drop lg) := by
                  have h1 := slice_secV (w := W5) (A := A) (n0 := n) (cap := cap) (ss := rest) ?_ lg H3.out.2.2.1.2.2
                  · obtain ⟨A2, hsl2, hs3, _⟩ := h1
                    have h2 := hsl W5
                    rw [hsl2 W5] at h2
                    injection h2 with h2
                    rw [h2] at hs3
                    exact hs3
                  · obtain ⟨A1, cap1, e1, e2, e3, e4⟩ := HS.out.1
                    refine ⟨A1, cap1, e1, e2, e3, fun q => ?_⟩
                    obtain ⟨b1, off1, rfl, hs⟩ := e4 q
                    injection e1 with e5 _ _
                    subst e5
                    exact ⟨b1, off1, rfl, (hs.keep HN.out.2.2.2 (fun q => q)).keep HF5.out (HC.out.1 b1 (HS.out.2 b1 rfl))⟩
                refine ⟨tn + 1, pre ++ [⟨vr, r, lg⟩], rest.drop lg, f, A', n - lg, cap - lg, by go_num, rfl, Lib.hid ⟨hS5, fun b' hb' => HS.out.2 b' (HN.out.2.2.1 b' hb')⟩, HJ5, Lib.hid ⟨?_, ?_, ?_, ?_, ?_⟩, ?_, HF6⟩
                · rw [← HR.out.1, HN.out.1]
                  simp
                · have := HR.out.2.1
                  have := H3.out.2.2.1
                  rw [List.length_drop]
                  omega
                · rw [List.length_drop, HR.out.2.2.1]
                · rw [List.length_append, HR.out.2.2.2.1]; rfl
                · have := HR.out.2.2.2.2
                  have := H3.out.2.2.1
                  have := HR.out.2.2.1
                  simp
                  omega
                · have := H3.out.2.2.1
                  have := HR.out.2.2.1
                  omega
              case measure =>
                have := H3.out.2.2.1
                have := HR.out.2.2.1
                simp [slLen]
                omega
      · have q1' : ¬ (tn : Int) = (k : Int) := by omega
        have hend : pre.map (fun x => (x.r, x.k)) = rr := by rw [← HR.out.1, H3.out.2.2.2, if_neg (by omega)]; simp
        have HE := Lib.hid (And.intro hend (hJ _ _ _ HJ.out H3.out.1))
        clear hend
        gi_wp2
        refine bodyPost_ret (results_none rfl _ _ _) rfl ?_
        exact ⟨⟨_, rfl⟩, pre, HE.out.1, HE.out.2⟩
end Go.Proofs.YtjdbgojnpnlblaaGreat
