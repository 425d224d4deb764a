/- known(): the chapter's rows; and the calls of methods on a nil writer. -/
import Derived.Test.YtmjkcjllpnpgpaaEnd
namespace Go.Proofs.Ytmjkcjllpnpgpaa
open Go.RowKit

/-- What puts gives, in the frame of the writer's making. -/
theorem Puts.new {w w1 : World} {g : Nat} {v : Value} {o : Option (List UInt8)} {e : Ending} {w' : World} {B : Nat} (h : Puts w1 B g v o e w') (hf : Fr (fun _ => False) w w1) (hg : w.heap.size ≤ g) (hv : ∀ k, v.ownBlock = some k → w.heap.size ≤ k) :
    e = .returned (.pointer (some ⟨g, 0, none⟩)) ∧ ∃ v', WrS w' B g v' o ∧ Fr (fun _ => False) w w' ∧ (∀ k, v'.ownBlock = some k → w.heap.size ≤ k) := by
  obtain ⟨he, v', h1, h2, h3⟩ := h
  have hs := hf.size
  refine ⟨he, v', h1, hf.trans h2 ?_, fun k hk => (h3 k hk).elim (hv k) (fun q => by omega)⟩
  rintro i hi (rfl | hk)
  · omega
  · have := hv i hk; omega

def exRow : List UInt8 := [0, 0, 1, 2, 255, 255, 255, 255, 255, 255, 255, 255, 0, 0, 0, 1, 7]

def exStr : ByteArray := ⟨exRow.toArray⟩
theorem eqEx : (exStr.toList == [0, 0, 1, 2, 255, 255, 255, 255, 255, 255, 255, 255, 0, 0, 0, 1, 7]) = true := by kernel_rfl

set_option maxHeartbeats 1000000 in
theorem known_any (w : World) : Calls Try.prog 10 #[] w fun e w' => e = .returned (.bool true) ∧ Fr (fun _ => False) w w' := by
  have hnew := WrS.new w
  go_enter Try.func10, Try.ntmps10
  go_wp2_with fail
  refine (number_puts_int hnew _ _ (by omega) (by omega) (by simp [roomS])).mono ?_
  intro e w1 hp
  obtain ⟨rfl, v1, h1, f1, b1⟩ := hp.new ((Fr.refl _ _).alloc _) (Nat.le_refl _) (fun k hk => by cases hk)
  clear hp hnew
  go_wp2_with fail
  refine (int_puts h1 _ (by unfold roomS; decide)).mono ?_
  intro e w2 hp
  obtain ⟨rfl, v2, h2, f2, b2⟩ := hp.new f1 (Nat.le_refl _) b1
  clear hp h1 f1 b1
  go_wp2_with fail
  have hn : ∀ ad : Addr, some (⟨w2.heap.size, 0, none⟩ : Addr) = some ad → ¬ WrF w.heap.size v2 ad.block := by
    rintro ad e hk
    injection e with e
    subst e
    exact Nat.lt_irrefl _ (h2.lt hk)
  have HN := Lib.hid hn
  clear hn
  refine (blob_puts (h2.alloc _) (Rd.one w2 5 7) (by omega) (fun _ => HN.out) (by unfold roomS; decide)).mono ?_
  intro e w3 hp
  obtain ⟨rfl, v3, h3, f3, b3⟩ := hp.new (f2.alloc _) (Nat.le_refl _) b2
  clear hp h2 f2 b2
  go_wp2_with fail
  have h3' : WrS w3 w.heap.size w.heap.size v3 (some exRow) := h3
  refine (end_any h3' (by decide)).mono ?_
  rintro e w4 ⟨x, rfl, hm⟩
  obtain ⟨A, c, rfl, hA, _, _, hr⟩ := own_rd hm.1
  have hcv : (convert 26 9 (.slice A exRow.length c)).run Try.prog w4 = .ok (.string exStr) w4 := conv_string (P := Try.prog) 26 9 5 (c := c) hr Try.underlying26 Try.underlying5 Try.underlying9
  have he := eqEx
  have hf := f3.trans hm.2 (fun _ _ => id)
  clear hr hA hm h3 h3' f3 b3
  go_wp2
  go_ret
  exact ⟨rfl, hf⟩
end Go.Proofs.Ytmjkcjllpnpgpaa
