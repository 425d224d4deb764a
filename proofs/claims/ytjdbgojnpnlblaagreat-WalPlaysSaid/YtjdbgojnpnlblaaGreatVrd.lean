/- wal: sectors that a disk begins with. -/
import Derived.Test.YtjdbgojnpnlblaaGreatVfm
namespace Go.Proofs.YtjdbgojnpnlblaaGreat
open Go.RowKit
attribute [local go_sem] Oper.semAt_some

/-- A sector. -/
abbrev Sec := { s : List UInt8 // s.length = 128 }
abbrev encS (x : Sec) : Array Value := #[av x.1, .int .i64 0]
def secOf (d : DS) (k : Nat) : Sec := if h : (d.rd.getD k []).length = 128 then ⟨d.rd.getD k [], h⟩ else ⟨nought 128, nought_len 128⟩
theorem secOf_at {d : DS} (h : ∀ s ∈ d.rd, s.length = 128) {k : Nat} (hk : k < d.rd.length) : (secOf d k).1 = d.rd.getD k [] := by
  unfold secOf
  rw [dif_pos (h _ (List.mem_of_getElem? (i := k) (by simp [hk])))]
theorem sectorsOf_any (w : World) (g N : Nat) : Calls Tryz.prog 69 #[.pointer (some ⟨g, 0, none⟩), .int .i64 N] w fun e w' =>
    e = .returned (.func (.func 96) #[] #[.pointer (some ⟨w.heap.size + 1, 0, none⟩), .pointer (some ⟨w.heap.size, 0, none⟩)]) ∧ w' = (w.alloc (.cells #[.pointer (some ⟨g, 0, none⟩)] 24)).alloc (.cells #[.int .i64 (N : Nat)] 3) := by
  go_enter Tryz.func69, Tryz.ntmps69
  go_wp2_with fail
  go_ret
  exact ⟨by simp, rfl⟩

set_option maxRecDepth 100000 in
set_option maxHeartbeats 4000000 in
theorem sectors1_in (F : Nat → Prop) (l Bn Bd N g B : Nat) (P : Nat → Prop) (d : DS) (hN : N ≤ d.rd.length) (hP : ∀ b, P b → ¬ F b) (J Jx : List Sec → World → Prop)
    (hJ : ∀ s W W', J s W → W.grownBy W' none → J s W')
    (hY : ∀ pre x W, J pre W → pre.length < N → YieldAt Fence.wide 8 Tryz.prog l (encS x) W fun e W' =>
      (e = .returned (.bool true) ∧ J (pre ++ [x]) W' ∧ Fr F W W') ∨ (e = .returned (.bool false) ∧ Jx (pre ++ [x]) W'))
    (W : World) (hBn : ¬ F Bn) (hBd : ¬ F Bd) (hcn : W.cell? ⟨Bn, 0, none⟩ = some (.int .i64 (N : Nat))) (hcd : W.cell? ⟨Bd, 0, none⟩ = some (.pointer (some ⟨g, 0, none⟩))) (hD : DAt W B P g d) (h0 : J [] W) :
    CallsIn Fence.wide 9 Tryz.prog 96 #[.func (.yield l) #[] #[], .pointer (some ⟨Bn, 0, none⟩), .pointer (some ⟨Bd, 0, none⟩)] W fun e W' => (∃ v, e = .returned v) ∧
      ((∃ ys, ys = upto (secOf d) N ∧ J ys W') ∨ (∃ pre, (∃ k, k ≤ N ∧ pre = upto (secOf d) k) ∧ Jx pre W')) := by
  refine callsIn_of_wp Tryz.func96 rfl trivial ?_ rfl
  simp only [Tryz.ntmps96, List.size_toArray, List.length_cons, List.length_nil, Nat.reduceAdd, Nat.reduceSub, Array.replicate_succ, Array.replicate_zero, List.push_toArray, List.append_toArray, List.nil_append, List.cons_append]
  have HC := Lib.hid hD
  have hlen := hD.len.2
  clear hD
  gi_wp2
  gi_loopw [6] (fun i wr => ∃ k : Nat, k ≤ N ∧ i = .int .i64 k ∧ J (upto (secOf d) k) wr ∧ Fr F W wr)
    (fun i _ => N - (intOf i).toNat)
  case atStart => exact ⟨0, Nat.zero_le _, rfl, h0, Fr.refl _ _⟩
  case round =>
    obtain ⟨k, hk, rfl, hJs, hnx⟩ := hrel
    by_cases hlt : k < N
    · have hB2 := (hnx.cell (p := ⟨Bd, 0, none⟩) (World.block_lt_of_cell? W _ hcd) hBd).trans hcd
      have hi0 : (0 : Int) ≤ (k : Int) := by omega
      have hi1 : (k : Int) < (N : Int) := by omega
      have HRD := Lib.hid (aread_any (HC.out.keep hnx (fun i hi => hP i hi)) (k := k) (by omega))
      have hxe := secOf_at HC.out.all128 (k := k) (by omega)
      rw [← hxe] at HRD
      gi_wp2
      refine ⟨trivial, (callsIn_wide.2 HRD.out).mono ?_⟩
      rintro e w2 ⟨rfl, hf⟩
      have hJ2 := hJ _ _ _ hJs hf.grow
      obtain ⟨fn, tmps, assign, body, hy, hR⟩ := hY (upto (secOf d) k) (secOf d k) w2 hJ2 (by rw [upto_len]; exact hlt)
      have hk2 : Fr F W w2 := hnx.trans hf (fun _ _ q => q.elim)
      dsimp only [encS] at hy
      clear hB2 hJ2 HRD hxe
      gi_wp2
      refine hR.mono ?_
      rintro e W3 (⟨rfl, hJ3, hk3⟩ | ⟨rfl, hJx3⟩)
      · gi_wp2
        go_roundw
        case rel => exact ⟨k + 1, by omega, by simp, by rw [upto_succ]; exact hJ3, hk2.trans hk3 (fun _ _ q => q)⟩
        case measure => simp [intOf]; omega
      · gi_wp2
        refine bodyPost_ret (results_none rfl _ _ _) rfl ?_
        exact ⟨⟨_, rfl⟩, .inr ⟨_, ⟨k + 1, by omega, (upto_succ _ _).symm⟩, hJx3⟩⟩
    · obtain rfl : k = N := by omega
      gi_wp2
      go_end0
      exact ⟨⟨_, rfl⟩, .inl ⟨_, rfl, hJs⟩⟩
theorem sectors_stops (F : Nat → Prop) (Bn Bd N g B : Nat) (P : Nat → Prop) (d : DS) (hN : N ≤ d.rd.length) (hP : ∀ b, P b → ¬ F b) (w : World) (hBn : ¬ F Bn) (hBd : ¬ F Bd)
    (hcn : Blk w Bn 3 #[.int .i64 (N : Nat)]) (hcd : Blk w Bd 24 #[.pointer (some ⟨g, 0, none⟩)]) (hD : DAt w B P g d) :
    SeqStopsK Fence.wide 9 Tryz.prog 96 #[.pointer (some ⟨Bn, 0, none⟩), .pointer (some ⟨Bd, 0, none⟩)] encS (Fr F) (fun ys => ys = upto (secOf d) N) (fun pre => ∃ k, k ≤ N ∧ pre = upto (secOf d) k) N w := fun l J Jx W hW hJ _ hY hj => by
  have hf : Fr (fun _ => False) w W := Fr.of_below hW
  have hc1 := (hcn.keep hf (fun q => q)).cell 0
  have hc2 := (hcd.keep hf (fun q => q)).cell 0
  exact sectors1_in F l Bn Bd N g B P d hN hP J Jx (fun s A B hsA hg => hJ s A B none hsA hg (fun r e => by cases e)) hY W hBn hBd (by simpa using hc1) (by simpa using hc2) (hD.new hf) hj
end Go.Proofs.YtjdbgojnpnlblaaGreat
