/- The law's act, whole: both disks stay alike. -/
import Derived.Test.YtiobmejnamdneaaCdr
import Derived.Test.YtiobmejnamdneaaBot
namespace Go.Proofs.Ytiobmejnamdneaa
open Go.RowKit Go.Maps

/-- The two disks, alike, with few versions. -/
def Alike (w : World) (B : Nat) (X Y : Nat → Prop) (g g' n N : Nat) : Prop := ∃ d r, Duo w B X Y g g' d r ∧ Sim d r ∧ d.most N ∧ d.rd.length = n
section
variable {w : World} {B g g' N : Nat} {X Y : Nat → Prop} {d : DS} {r : RD} {a : ActD}
theorem sim_few (hs : Sim d r) (hM : d.most N) (h1 : 1 ≤ N) {i : Nat} {ss : List (List UInt8)} (hi : r.V[i]? = some ss) : ss.length ≤ N := by
  have hir : i < r.V.length := (List.getElem?_eq_some_iff.1 hi).1
  have := SimAt.ver (hs.each i (by rw [hs.len]; exact hir))
  rw [hi] at this
  injection this with this
  rw [this]
  split
  · simpa using h1
  · exact hM i
theorem most_up {N : Nat} (h : d.most N) : d.most (N + 1) := fun i => Nat.le_succ_of_le (h i)

set_option maxRecDepth 100000 in
theorem cdo_any (h : Duo w B X Y g g' d r) (hs : Sim d r) (hM : d.most N) (h1 : 1 ≤ N) (hN : N ≤ 1000) (ha : ActIn w a) (hpF : ∀ b, a.pv.ownBlock = some b → 0 < a.ps.length → b < B) (hpz : ∀ z ∈ a.ps, -9223372036854775808 ≤ z ∧ z ≤ 9223372036854775807) :
    Calls Try.prog 7 #[.pointer (some ⟨g, 0, none⟩), .pointer (some ⟨g', 0, none⟩), .agg (actC a).toArray] w fun e w' => e = .returned (.bool true) ∧ Alike w' B X Y g g' d.rd.length (N + 1) ∧ Fr (fun b => B ≤ b ∧ ¬ X b) w w' := by
  have hl := ha.sl
  have hn8 := h.n1
  have hlen := hs.len
  have hr1 := hs.left1
  have hout := hs.out
  have keep : ∀ {d' r'}, Sim d' r' → r'.V.length = r.V.length → d'.rd.length = d.rd.length := fun h1 h2 => by rw [h1.len, h2, hlen]
  by_cases k1 : a.k = 1
  · cases HI : (decide (0 ≤ a.a) && decide (a.a < (r.V.length : Int))) with
    | false =>
      refine (cdo1_bad h hl k1 HI hlen).mono ?_
      rintro e w1 ⟨rfl, hD, f⟩
      exact ⟨rfl, ⟨d, r, hD, hs, most_up hM, rfl⟩, f⟩
    | true =>
      have hin : 0 ≤ a.a ∧ a.a < (r.V.length : Int) := by simpa using HI
      obtain ⟨i, hi⟩ : ∃ i : Nat, a.a = (i : Int) := ⟨a.a.toNat, by omega⟩
      have hid : i < d.rd.length := by omega
      have hver := SimAt.ver (hs.each i hid)
      have hmi : (d.vs i).length ≤ 10000 := by have := hM i; omega
      cases hal : d.alive with
      | true =>
        have hS := hs.write hid a.s hal
        refine (cdo1 (bb := true) (d1 := d.write i a.s) (r1 := { r.stepD with V := r.V.set i ((if d.vs i = [] then [d.rd.getD i []] else d.vs i) ++ [a.s]) }) h hl k1 HI (fun w0 hD => ?_) (fun w0 hD => ?_)).mono ?_
        · have := duo_write hD hid hl hmi
          rw [hal, ← hi] at this
          exact this
        · have := duo_rwrite hD hr1 hver (by have := sim_few hs hM h1 hver; omega) hl (by rw [hout, hal]; rfl)
          rw [← hi] at this
          exact this
        · rintro e w1 ⟨rfl, hD, f⟩
          exact ⟨rfl, ⟨_, _, hD, hS, write_most hM h1, keep hS (by simp)⟩, f⟩
      | false =>
        have hS := hs.nowrite hal i a.s
        refine (cdo1 (bb := false) (d1 := d.write i a.s) (r1 := r.stepD) h hl k1 HI (fun w0 hD => ?_) (fun w0 hD => ?_)).mono ?_
        · have := duo_write hD hid hl hmi
          rw [hal, ← hi] at this
          exact this
        · exact duo_rwrite_dead hD hr1 (by rw [hout, hal]; rfl)
        · rintro e w1 ⟨rfl, hD, f⟩
          exact ⟨rfl, ⟨_, _, hD, hS, write_most hM h1, keep hS rfl⟩, f⟩
  by_cases k2 : a.k = 2
  · cases hal : d.alive with
    | true =>
      have hS := hs.flush hal
      refine (cdo2 (bb := true) (d1 := d.flushed) (r1 := { r.stepD with V := r.V.map lastOne }) h hl k2 (fun w0 hD => ?_) (fun w0 hD => ?_)).mono ?_
      · have := duo_flush hD
        rw [hal] at this
        exact this
      · exact duo_rflush hD hr1 (by omega) (by omega) (by rw [hout, hal]; rfl)
      · rintro e w1 ⟨rfl, hD, f⟩
        exact ⟨rfl, ⟨_, _, hD, hS, most_up (flushed_most hM), keep hS (by simp)⟩, f⟩
    | false =>
      have hS := hs.noflush hal
      refine (cdo2 (bb := false) (d1 := d.flushed) (r1 := r.stepD) h hl k2 (fun w0 hD => ?_) (fun w0 hD => ?_)).mono ?_
      · have := duo_flush hD
        rw [hal] at this
        exact this
      · exact duo_rflush_dead hD hr1 (by rw [hout, hal]; rfl)
      · rintro e w1 ⟨rfl, hD, f⟩
        exact ⟨rfl, ⟨_, _, hD, hS, most_up (flushed_most hM), keep hS rfl⟩, f⟩
  by_cases k3 : a.k = 3
  · by_cases hn : a.n < 0
    · refine (cdo3_neg h hl k3 hn).mono ?_
      rintro e w1 ⟨rfl, hD, f⟩
      exact ⟨rfl, ⟨d, r, hD, hs, most_up hM, rfl⟩, f⟩
    · refine (cdo3 h hl k3 hn ha.n1).mono ?_
      rintro e w1 ⟨rfl, hD, f⟩
      exact ⟨rfl, ⟨_, _, hD, hs.fuse (by omega) ha.n1, most_up hM, rfl⟩, f⟩
  by_cases k4 : a.k = 4
  · have hS := hs.crash a.ps
    refine (cdo4 h hl k4 ha.pi hpF hpz (by omega) (by omega) (fun i ss hi => by have := sim_few hs hM h1 hi; omega) (fun i => by have := hM i; omega)).mono ?_
    rintro e w1 ⟨rfl, hD, f⟩
    exact ⟨rfl, ⟨_, _, hD, hS, most_up (crash_most hM _), keep hS (by unfold RD.crash; exact rfalls_len _ _)⟩, f⟩
  by_cases k5 : a.k = 5
  · cases HI : (decide (0 ≤ a.a) && decide (a.a < (r.V.length : Int))) with
    | false =>
      refine (cdo5_bad h hl k5 HI hlen).mono ?_
      rintro e w1 ⟨rfl, hD, f⟩
      exact ⟨rfl, ⟨d, r, hD, hs, most_up hM, rfl⟩, f⟩
    | true =>
      have hin : 0 ≤ a.a ∧ a.a < (r.V.length : Int) := by simpa using HI
      obtain ⟨i, hi⟩ : ∃ i : Nat, a.a = (i : Int) := ⟨a.a.toNat, by omega⟩
      have hid : i < d.rd.length := by omega
      obtain ⟨ss, hss, hlast⟩ := SimAt.read (hs.each i hid)
      refine (cdo5 h hl k5 hi hid HI hss hlast).mono ?_
      rintro e w1 ⟨rfl, hD, f⟩
      exact ⟨rfl, ⟨d, r, hD, hs, most_up hM, rfl⟩, f⟩
  refine (cdo_none h hl rfl k1 k2 k3 k4 k5).mono ?_
  rintro e w1 ⟨rfl, hD, f⟩
  exact ⟨rfl, ⟨d, r, hD, hs, most_up hM, rfl⟩, f⟩
end
end Go.Proofs.Ytiobmejnamdneaa
