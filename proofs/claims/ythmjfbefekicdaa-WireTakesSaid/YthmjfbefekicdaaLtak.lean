/- The laws' own take. -/
import Derived.Test.YthmjfbefekicdaaTref
import Derived.Test.YthmjfbefekicdaaLput
namespace Go.Proofs.Ythmjfbefekicdaa
open Go.RowKit

/-- A slice that reads as l (its room left open). -/
def Ss (w : World) (v : Value) (l : List UInt8) : Prop := ∃ A c, v = .slice A l.length c ∧ Rd w A l.length l
theorem Ss.of_own {w : World} {base e : Nat} {v : Value} {l : List UInt8} (h : w.ownsRow base e 1 v l.length (cellsB l)) : Ss w v l := by
  obtain ⟨A, c, hv, _, _, hr⟩ := Sl.of_own h
  exact ⟨A, c, hv, hr⟩
theorem Ss.nil (w : World) : Ss w (.slice none 0 0) [] := ⟨none, 0, rfl, Rd.nil _ _⟩
theorem Ss.new {w w' : World} {v : Value} {l : List UInt8} (h : Ss w v l) (f : Fr (fun _ => False) w w') : Ss w' v l := by
  obtain ⟨A, c, hv, hr⟩ := h
  exact ⟨A, c, hv, hr.new f⟩

/-- What take leaves. -/
def Takes (w : World) (g : Nat) (n : Nat) (got rest : List UInt8) (f : Bool) (e : Ending) (w' : World) : Prop :=
  ∃ v, e = .returned (.tuple #[.int .u64 (n : Int), v]) ∧ Ss w' v got ∧ Rr w' g rest f true ∧ Fr (fun k => k = g) w w'
theorem Left.takes {w w' : World} {o : Obj} {g : Nat} {l : List UInt8} {f : Bool} (h : Left (w.alloc o) g l f true w') : Rr w' g l f true ∧ Fr (fun k => k = g) w w' :=
  ⟨h.1, ((Fr.refl _ w).alloc o).trans h.2 (fun _ _ q => q)⟩

theorem u64_i64 (n : Nat) (h : n < 18446744073709551616) : IntKind.u64.wrap (wrap64 (n : Int)) = (n : Int) := by
  rw [wrapU]
  unfold wrap64
  omega

set_option maxHeartbeats 4000000 in
theorem ltake_any {w : World} {g : Nat} {l : List UInt8} {f : Bool} (h : Rr w g l f true) (kd n s : Int) (b : Value) :
    Calls Try.prog 19 #[.pointer (some ⟨g, 0, none⟩), .agg #[.int .i64 kd, .int .u64 n, .int .i64 s, b]] w (Takes w g (tNum (kindOf kd) s l) (tGot (kindOf kd) s l) (tRest (kindOf kd) s l) (f || !tOk (kindOf kd) s l)) := by
  have HK := Lib.hid (kind_any kd)
  have hk := kindOf_in kd
  generalize kindOf kd = k at *
  have hq : k = 1 ∨ k = 2 ∨ k = 3 ∨ k = 4 ∨ k = 5 ∨ k = 6 ∨ k = 7 := by omega
  clear hk
  have HA := Lib.hid (h.keep (F := fun _ => False) ((Fr.refl _ w).alloc (.cells #[.int .i64 kd, .int .u64 n, .int .i64 s, b] 34)) (fun _ q => q.elim))
  clear h
  rcases hq with rfl | rfl | rfl | rfl | rfl | rfl | rfl
  · have HC := Lib.hid (rnumber_any HA.out s)
    show Calls _ _ _ _ (Takes w g (tkNum l s) [] (tkRest l s) (f || !tkOk l s))
    generalize tkNum l s = m at *
    generalize tkRest l s = y at *
    generalize (f || !tkOk l s) = f' at *
    go_enter Try.func19, Try.ntmps19
    go_wp2_with fail
    (with_reducible refine (HK.out _).mono ?_)
    rintro e w1 ⟨rfl, rfl⟩
    go_wp2_with fail
    (with_reducible refine HC.out.mono ?_)
    rintro e w1 ⟨rfl, h1⟩
    have H1 := Lib.hid h1.takes
    clear h1
    go_wp2
    go_ret2
    exact ⟨_, rfl, Ss.nil _, H1.out⟩
  · have HC := Lib.hid (rint_any HA.out)
    show Calls _ _ _ _ (Takes w g (tkNum l 8) [] (tkRest l 8) (f || !tkOk l 8))
    have hlt := tkNum_lt l 8
    generalize tkNum l 8 = m at *
    generalize tkRest l 8 = y at *
    generalize (f || !tkOk l 8) = f' at *
    have HE := Lib.hid (u64_i64 m hlt)
    generalize hz : wrap64 (m : Int) = z at *
    clear hz hlt
    go_enter Try.func19, Try.ntmps19
    go_wp2_with fail
    (with_reducible refine (HK.out _).mono ?_)
    rintro e w1 ⟨rfl, rfl⟩
    go_wp2_with fail
    (with_reducible refine HC.out.mono ?_)
    rintro e w1 ⟨rfl, h1⟩
    have H1 := Lib.hid h1.takes
    clear h1
    go_wp2
    go_ret2
    exact ⟨_, by rw [← HE.out]; rfl, Ss.nil _, H1.out⟩
  · have HC := Lib.hid (rflag_any HA.out)
    show Calls _ _ _ _ (Takes w g (if tkNum l 1 = 1 then 1 else 0) [] (flRest l) (f || !flOk l))
    have he : (if tkNum l 1 = 1 then 1 else 0) = if decide (tkNum l 1 = 1) then 1 else 0 := by simp
    rw [he]
    clear he
    generalize decide (tkNum l 1 = 1) = m at *
    generalize flRest l = y at *
    generalize (f || !flOk l) = f' at *
    cases m
    all_goals
      go_enter Try.func19, Try.ntmps19
      go_wp2_with fail
      (with_reducible refine (HK.out _).mono ?_)
      rintro e w1 ⟨rfl, rfl⟩
      go_wp2_with fail
      (with_reducible refine HC.out.mono ?_)
      rintro e w1 ⟨rfl, h1⟩
      have H1 := Lib.hid h1.takes
      clear h1
      go_wp2
      go_ret2
      exact ⟨_, rfl, Ss.nil _, H1.out⟩
  · have HC := Lib.hid (rbytes_any HA.out s)
    show Calls _ _ _ _ (Takes w g 0 (byGot l s) (byRest l s) (f || !byOk l s))
    generalize byGot l s = m at *
    generalize byRest l s = y at *
    generalize (f || !byOk l s) = f' at *
    go_enter Try.func19, Try.ntmps19
    go_wp2_with fail
    (with_reducible refine (HK.out _).mono ?_)
    rintro e w1 ⟨rfl, rfl⟩
    go_wp2_with fail
    (with_reducible refine HC.out.mono ?_)
    rintro e w1 ⟨v, rfl, h1⟩
    have H1 := Lib.hid (And.intro (Ss.of_own h1.1) (Left.takes ⟨h1.2.1, h1.2.2⟩))
    clear h1
    go_wp2
    go_ret2
    exact ⟨_, rfl, H1.out⟩
  · have HC := Lib.hid (rblob_any HA.out)
    show Calls _ _ _ _ (Takes w g 0 (blGot l) (blRest l) (f || !blOk l))
    generalize blGot l = m at *
    generalize blRest l = y at *
    generalize (f || !blOk l) = f' at *
    go_enter Try.func19, Try.ntmps19
    go_wp2_with fail
    (with_reducible refine (HK.out _).mono ?_)
    rintro e w1 ⟨rfl, rfl⟩
    go_wp2_with fail
    (with_reducible refine HC.out.mono ?_)
    rintro e w1 ⟨v, rfl, h1⟩
    have H1 := Lib.hid (And.intro (Ss.of_own h1.1) (Left.takes ⟨h1.2.1, h1.2.2⟩))
    clear h1
    go_wp2
    go_ret2
    exact ⟨_, rfl, H1.out⟩
  · have HC := Lib.hid (rtext_any HA.out)
    show Calls _ _ _ _ (Takes w g 0 (blGot l) (blRest l) (f || !blOk l))
    generalize blGot l = m at *
    generalize blRest l = y at *
    generalize (f || !blOk l) = f' at *
    go_enter Try.func19, Try.ntmps19
    go_wp2_with fail
    (with_reducible refine (HK.out _).mono ?_)
    rintro e w1 ⟨rfl, rfl⟩
    go_wp2_with fail
    (with_reducible refine HC.out.mono ?_)
    rintro e w1 ⟨rfl, h1⟩
    obtain ⟨c, w2, hcv, hr, hf, _⟩ := conv_bytes (P := Try.prog) w1 9 26 5 ⟨m.toArray⟩ Try.underlying9 Try.underlying26 Try.underlying5
    have H1 := Lib.hid (And.intro h1.takes (And.intro hr hf))
    clear h1 hr hf
    go_wp2
    go_ret2
    refine ⟨_, rfl, ⟨_, c, rfl, H1.out.2.1⟩, H1.out.1.1.keep H1.out.2.2 (fun _ q => q.elim), H1.out.1.2.trans H1.out.2.2 (fun _ _ q => q.elim)⟩
  · have HC := Lib.hid (rcount_any HA.out)
    show Calls _ _ _ _ (Takes w g (tkNum l 2) [] (tkRest l 2) (f || !tkOk l 2))
    have hlt := tkNum_2 l
    generalize tkNum l 2 = m at *
    generalize tkRest l 2 = y at *
    generalize (f || !tkOk l 2) = f' at *
    go_enter Try.func19, Try.ntmps19
    go_wp2_with fail
    (with_reducible refine (HK.out _).mono ?_)
    rintro e w1 ⟨rfl, rfl⟩
    go_wp2_with fail
    (with_reducible refine HC.out.mono ?_)
    rintro e w1 ⟨rfl, h1⟩
    have H1 := Lib.hid h1.takes
    clear h1
    go_wp2
    go_ret2
    exact ⟨_, rfl, Ss.nil _, H1.out⟩
end Go.Proofs.Ythmjfbefekicdaa
