/- couponlaw06: all: are a pool's pages these? -/
import Derived.Test.YtcnlgbjkjlbmbaaGreatQde
namespace Go.Proofs.YtcnlgbjkjlbmbaaGreat
open Go.RowKit

structure SameP (x y : PX) : Prop where
 N : y.N = x.N
 z : y.z = x.z
 f1 : y.f1 = x.f1
 f2 : y.f2 = x.f2
 C : ∀ n, y.C n = x.C n
theorem SameP.refl (x : PX) : SameP x x := ⟨rfl, rfl, rfl, rfl, fun _ => rfl⟩
theorem SameP.V {x y : PX} (h : SameP x y) (n : Nat) : y.V n = x.V n := by unfold PX.V; rw [h.f1, h.C]
theorem SameP.got {x y : PX} (h : SameP x y) (n : Nat) : SameP x (y.got n) := by
 obtain ⟨a1, a2, a3, a4, a5, a6⟩ := got_same y n
 exact ⟨a1.trans h.N, a2.trans h.z, a4.trans h.f1, a5.trans h.f2, fun k => (a6 k).trans (h.C k)⟩
section
variable {w : World} {B p g K : Nat} {S : Nat → Prop} {x : PX} {v : Value} {l : List (List UInt8)}
theorem PTo.next {w1 w2 : World} {S1 : Nat → Prop} {x2 : PX} (hs : ∀ b, S1 b → S b ∨ w.heap.size ≤ b) (f : Fr S w w1) (h : PTo w1 w2 B S1 p g x2) : PTo w w2 B S p g x2 := by
 obtain ⟨S2, h1, h2, f2⟩ := h
 have := f.size
 refine ⟨S2, h1, fun b hb => ?_, f.trans f2 (fun b hb q => (hs b q).elim (fun q => q) (fun q => by omega))⟩
 rcases h2 b hb with q | q
 · exact hs b q
 · exact .inr (by omega)
theorem PTo.on {w1 w2 : World} {x1 : PX} (h : PTo w w1 B S p g x1) (f : Fr (fun _ => False) w1 w2) : PTo w w2 B S p g x1 := by
 obtain ⟨S1, h1, h2, f1⟩ := h
 exact ⟨S1, h1.new f, h2, f1.trans f (fun _ _ q => q.elim)⟩
def AllQ (w w' : World) (B : Nat) (S : Nat → Prop) (p g K : Nat) (x : PX) (l : List (List UInt8)) (N m : Nat) (u : Value) : Prop := ∃ x' b, u = .bool b ∧ PTo w w' B S p g x' ∧ x'.Ok K ∧ SameP x x' ∧ (b = true ↔ (m = N ∧ ∀ i y, l[i]? = some y → y = x.V i))
set_option maxRecDepth 100000 in
set_option maxHeartbeats 4000000 in
theorem all_any6 (h : PA w B S p g x) (k : x.Ok K) (hp : PgsV w v l) (hv : ∀ b, v.ownBlock = some b → ¬ S b) (hl : l.length ≤ 2000) : Calls Tryz.prog 15 #[.pointer (some ⟨p, 0, none⟩), v] w fun e w' => ∃ u, e = .returned u ∧ AllQ w w' B S p g K x l x.N l.length u := by
 have HP := Lib.hid (pa_pages h k)
 have H0 := Lib.hid (And.intro h (And.intro k (And.intro hp hv)))
 obtain ⟨m, hm⟩ : ∃ m, m = l.length := ⟨_, rfl⟩
 obtain ⟨N, hN⟩ : ∃ N, N = x.N := ⟨_, rfl⟩
 rw [← hN] at HP
 obtain ⟨A, c, hva, _, _, _, _⟩ := hp
 rw [← hm] at hva hl
 rw [← hm, ← hN]
 have HM := Lib.hid (And.intro hm hN)
 subst hva
 clear h k hv hm hN
 go_enter Tryz.func15, Tryz.ntmps15
 go_wp2_with fail
 refine HP.out.mono ?_
 rintro e w1 ⟨rfl, f1⟩
 have H1 := Lib.hid f1
 clear f1 HP
 by_cases hmN : N = m
 · subst hmN
   have hb0 : ((N : Int) != (N : Int)) = false := by simp
   go_wp2_with fail
   go_loopw [5] (fun i wr => ∃ j : Nat, i = .int .i64 j ∧ j ≤ N ∧ Hid (∃ xk, PTo w wr B S p g xk ∧ xk.Ok K ∧ SameP x xk) ∧ Hid (∀ i y, i < j → l[i]? = some y → y = x.V i)) (fun i _ => N - (intOf i).toNat)
   case atStart => exact ⟨0, rfl, Nat.zero_le _, Lib.hid ⟨x, (PTo.refl H0.out.1).on H1.out, H0.out.2.1, SameP.refl x⟩, Lib.hid (fun i y hi => absurd hi (by omega))⟩
   case round =>
    obtain ⟨j, rfl, hj, HX, HA⟩ := hrel
    by_cases hlt : j < N
    · obtain ⟨xk, hPT, hok, hsm⟩ := HX.out
      obtain ⟨S1, hA1, hs1, f1⟩ := hPT
      have hjN : j < xk.N := by rw [hsm.N, ← HM.out.2]; exact hlt
      obtain ⟨pg, hpg⟩ : ∃ pg, pg = xk.V j := ⟨_, rfl⟩
      have HG := Lib.hid (pa_get hA1 hok hjN)
      rw [← hpg] at HG
      have HS := Lib.hid (And.intro hs1 (And.intro f1 (And.intro (hok.got hjN) (And.intro (hsm.got j) (And.intro (hpg.trans (hsm.V j)) (show pg.length = 512 by rw [hpg]; exact hok.V_len hjN))))))
      have hjm : (j : Int) < (N : Int) := by omega
      clear hA1 hs1 f1 hok hsm hpg hjN HX
      go_wp2_with fail
      refine HG.out.mono ?_
      rintro e wa ⟨rfl, hT⟩
      have hT' := hT.next HS.out.1 HS.out.2.1
      obtain ⟨W1, hW1, hb1, hr1, g1, th1⟩ := put_arr wa 50 Tryz.zeroCells50 512 zeroPgCells pg HS.out.2.2.2.2.2
      have hT1 := hT'.on g1
      obtain ⟨lv, hlv⟩ : ∃ lv, l[j]? = some lv := ⟨_, List.getElem?_eq_getElem (by have := HM.out.1; omega)⟩
      have hpk := H0.out.2.2.1.keep (F := S) (by obtain ⟨_, _, _, f⟩ := hT1; exact f) H0.out.2.2.2
      obtain ⟨b, off, c', hvA, hra, hll⟩ := hpk.at_ hlv
      have hA : A = some ⟨b, off, none⟩ := by injection hvA
      have fd : Fr (fun _ => False) W1 W1.drew := (Fr.refl (fun _ => False) W1).drew
      have HRG : Hid (W1.drew.rangeAt wa.heap.size 0 (cellsB pg) ∧ W1.drew.rangeAt b (off + j * 512) (cellsB lv)) := Lib.hid ⟨fun i u hi => (fd.cell (World.block_lt_of_cell? W1 _ (hr1 i u hi)) (fun q => q)).trans (hr1 i u hi), fun i u hi => (fd.cell (World.block_lt_of_cell? W1 _ (hra i u hi)) (fun q => q)).trans (hra i u hi)⟩
      have HLN := Lib.hid (And.intro HS.out.2.2.2.2.2 hll)
      have HW1 := Lib.hid (And.intro hW1 (And.intro th1 HLN.out.1))
      obtain ⟨d, hd⟩ : ∃ d, d = !decide (pg = lv) := ⟨_, rfl⟩
      have hcmp : ∀ W, (binOp .neq 50 (av pg) (av lv)).run Tryz.prog W = .ok (.bool d) W := fun W => by
       rw [pg_neq pg lv HLN.out.1 HLN.out.2, hd]
      have HT := Lib.hid (And.intro (hT1.on fd) (And.intro hlv hd))
      have hj0 : (0 : Int) ≤ (j : Int) := by omega
      clear hT hT' hW1 hb1 hr1 g1 th1 hT1 hlv hpk hvA hra hll fd hd HG
      subst hA
      go_wp2_with (refine wpList_store_mid rfl 50 _ _ rfl wa.heap.size 0 (cellsB pg).toArray rfl rfl HW1.out.2.1 (by rw [infoPgS]; simp [cellsB_len, HW1.out.2.2]) (all_oneCell_toArray (cellsB_one _)) ?_; rw [← HW1.out.1])
      (try simp only [Act.put, List.setIfInBounds_toArray, List.set_cons_zero, List.set_cons_succ])
      refine wp_region_held_drew (S := fun w' => w'.rangeAt wa.heap.size 0 (cellsB pg) ∧ w'.rangeAt b (off + j * 512) (cellsB lv)) (by kernel_rfl) HRG.out (fun hS0 => ?_)
      refine anyH_tk 0 25 (.int .i64 0) rfl rfl (.inl ⟨by rfl, fun w'' hS => by go_simp⟩) hS0 ?_
      (simp only [sA, sB, sC])
      refine anyH_tk 1 26 (.bool false) rfl rfl (.inl ⟨by rfl, fun w'' hS => by go_simp⟩) hS0 ?_
      (simp only [sA, sB, sC])
      refine anyH_tk 2 27 (.bool false) rfl rfl (.inl ⟨by rfl, fun w'' hS => by go_simp⟩) hS0 ?_
      (simp only [sA, sB, sC])
      refine anyH_tk 3 28 (av pg) rfl rfl (.inl ⟨by rfl, fun w'' hS => run_load_mid 50 _ rfl wa.heap.size 0 rfl (cellsB pg) _ hS.1 Tryz.underlying50 rfl (by rw [infoPgS, cellsB_len, HLN.out.1])⟩) hS0 ?_
      (simp only [sA, sB, sC])
      refine anyH_tk 4 29 (.slice (some ⟨b, off, none⟩) N c) rfl rfl (.inl ⟨by rfl, fun w'' hS => by go_simp⟩) hS0 ?_
      (simp only [sA, sB, sC])
      refine anyH_tk 5 30 (.int .i64 (j : Nat)) rfl rfl (.inl ⟨by rfl, fun w'' hS => by go_simp⟩) hS0 ?_
      (simp only [sA, sB, sC])
      refine anyH_tk 6 31 (.pointer (some ⟨b, off + j * 512, none⟩)) rfl rfl (.inl ⟨by rfl, fun w'' hS => by go_simp⟩) hS0 ?_
      (simp only [sA, sB, sC])
      refine anyH_tk 7 32 (av lv) rfl rfl (.inl ⟨by rfl, fun w'' hS => run_load_mid 50 _ rfl b (off + j * 512) rfl (cellsB lv) _ hS.2 Tryz.underlying50 rfl (by rw [infoPgS, cellsB_len, HLN.out.2])⟩) hS0 ?_
      (simp only [sA, sB, sC])
      refine anyH_tk 8 33 (.bool d) rfl rfl (.inl ⟨by rfl, fun w'' hS => by go_simp⟩) hS0 ?_
      (simp only [sA, sB, sC])
      refine anyH_tk 9 34 (.bool d) rfl rfl (.inl ⟨by rfl, fun w'' hS => by go_simp⟩) hS0 ?_
      (simp only [sA, sB, sC])
      refine wpAnyH_done (by kernel_rfl) ?_ _
      clear hS0
      cases d with
      | true =>
        go_wp2_with fail
        go_ret
        refine ⟨_, rfl, _, false, rfl, HT.out.1, HS.out.2.2.1, HS.out.2.2.2.1, ⟨(fun q => by cases q), fun q => ?_⟩⟩
        have h1 := q.2 j lv HT.out.2.1
        have h2 := HT.out.2.2
        rw [h1, HS.out.2.2.2.2.1] at h2
        simp at h2
      | false =>
        go_wp2_with fail
        refine ⟨⟨j + 1, by norm_cast, by omega, Lib.hid ⟨_, HT.out.1, HS.out.2.2.1, HS.out.2.2.2.1⟩, Lib.hid (fun i y hi hy => ?_)⟩, ?_⟩
        · by_cases e : i = j
          · subst e
            have h1 := HT.out.2.1
            rw [hy] at h1
            injection h1 with h1
            have h2 := HT.out.2.2
            have h3 : pg = lv := by simpa using h2.symm
            rw [h1, ← h3]
            exact HS.out.2.2.2.2.1
          · exact HA.out i y (by omega) hy
        · simp only [intOf]
          omega
    · obtain rfl : j = N := by omega
      clear hlt
      go_wp2_with fail
      go_ret
      obtain ⟨xk, hPT, hok, hsm⟩ := HX.out
      exact ⟨_, rfl, xk, true, rfl, hPT, hok, hsm, ⟨fun _ => ⟨rfl, fun i y hy => HA.out i y (by have := (List.getElem?_eq_some_iff.1 hy).1; have := HM.out.1; omega) hy⟩, fun _ => rfl⟩⟩
 · have hb0 : ((N : Int) != (m : Int)) = true := by simp; omega
   have HNM := Lib.hid hmN
   clear hmN
   go_wp2_with fail
   go_ret
   exact ⟨_, rfl, x, false, rfl, (PTo.refl H0.out.1).on H1.out, H0.out.2.1, SameP.refl x, ⟨fun q => (by cases q), fun q => absurd q.1.symm HNM.out⟩⟩
end
end Go.Proofs.YtcnlgbjkjlbmbaaGreat

