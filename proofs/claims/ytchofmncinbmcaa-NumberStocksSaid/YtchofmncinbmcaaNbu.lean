/- strings.Builder: String, WriteRune of a rune below 128. -/
import Derived.Test.YtchofmncinbmcaaNpr
import Derived.LaidEqlPtr
import Derived.Lib.Walk
import Derived.Lib.UnsafeStr
import Derived.Lib.Builder
import Derived.Laws.Externs
namespace Go.Proofs.Ytchofmncinbmcaa
open Go.RowKit

/-- In block g stands a builder that holds l (f: it was written to). -/
def Bu (w : World) (B g : Nat) (v : Value) (l : List UInt8) (f : Bool) : Prop :=
  Blk w g 58 #[.pointer (if f then some ⟨g, 0, none⟩ else none), v] ∧ w.ownsRow B 5 1 v l.length (cellsB l) ∧ B ≤ w.heap.size

theorem infoBu : (Try.prog.info? 58).isSome = true := by kernel_rfl
theorem neq_bu (g : Nat) (w : World) : (binOp .neq 56 (.pointer (some ⟨g, 0, none⟩)) (.pointer (some ⟨g, 0, none⟩))).run Try.prog w = .ok (.bool false) w := by
  obtain ⟨j, hj⟩ := Option.isSome_iff_exists.1 infoBu
  have h : ∀ d : Nat, (Op.equalIn (d + 1) 56 (.pointer (some ⟨g, 0, none⟩)) (.pointer (some ⟨g, 0, none⟩))).run Try.prog w = .ok true w := fun d => by
    simp [Op.equalIn, run_underlying Try.underlying56, sizeOf, typeInfo, hj, run_sameAddr_same]
  simp only [binOp]
  simp [Op.equal, Op.maxDepth, h 9999]

theorem check_old {w : World} {B g : Nat} {v : Value} {l : List UInt8} (h : Bu w B g v l true) :
    Calls Try.prog 42 #[.pointer (some ⟨g, 0, none⟩)] w fun e w' => e = .returned (.tuple #[]) ∧ w = w' := by
  have h0 := h.1.cell 0
  simp at h0
  have hn := neq_bu g
  clear h
  go_enter Try.func42, Try.ntmps42
  go_wp2
  go_end0
  exact ⟨rfl, rfl⟩

set_option maxHeartbeats 1000000 in
set_option maxRecDepth 100000 in
theorem check_new {w : World} {B g : Nat} {v : Value} {l : List UInt8} (h : Bu w B g v l false) :
    Calls Try.prog 42 #[.pointer (some ⟨g, 0, none⟩)] w fun e w' => e = .returned (.tuple #[]) ∧ w' = w.setCell ⟨g, 0, none⟩ (.pointer (some ⟨g, 0, none⟩)) := by
  obtain ⟨j, hj⟩ := Option.isSome_iff_exists.1 infoBu
  have hjs : j.size = 2 := by
    have h : (Try.prog.info? 58).map (·.size) = some 2 := by kernel_rfl
    rw [hj] at h
    simpa using h
  have h0 := h.1.cell 0
  have f0 := h.1.frozen 0
  have hsh : w.shape? g = some (58, 2) := by
    have := h.1
    unfold Blk at this
    simp [World.shape?, this]
  simp at h0
  clear h
  go_enter Try.func42, Try.ntmps42
  go_wp2
  rw [Lib.run_to_unsafe w ⟨g, 0, none⟩ Try.underlying56 Try.underlying71 hj (by rw [hjs]; decide) hsh (Nat.zero_lt_succ 1)]
  simp only [Result.andThen]
  rw [Oper.upon_value]
  go_wp2
  rw [run_callFunc_extern Try.func45 (by kernel_rfl) (by kernel_rfl) (by kernel_rfl) (e := Extern.AbiNoEscape.same) (by kernel_rfl)]
  rw [Lib.run_noEscape]
  simp only [Result.andThen]
  rw [Oper.upon_value]
  go_wp2
  rw [Lib.run_from_unsafe w ⟨g, 0, none⟩ Try.underlying71 Try.underlying56 hj hsh (by kernel_rfl)]
  simp only [Result.andThen]
  rw [Oper.upon_value]
  go_wp2
  go_end0
  exact ⟨rfl, rfl⟩

theorem check_any {w : World} {B g : Nat} {v : Value} {l : List UInt8} {f : Bool} (h : Bu w B g v l f) :
    Calls Try.prog 42 #[.pointer (some ⟨g, 0, none⟩)] w fun e w' => e = .returned (.tuple #[]) ∧ Bu w' B g v l true ∧ Fr (fun k => k = g) w w' := by
  cases f with
  | true => exact (check_old h).mono fun _ _ ⟨he, hw⟩ => ⟨he, hw ▸ h, hw ▸ Fr.refl _ _⟩
  | false =>
    refine (check_new h).mono ?_
    rintro e w' ⟨rfl, rfl⟩
    have hf : Fr (fun k => k = g) w (w.setCell ⟨g, 0, none⟩ (.pointer (some ⟨g, 0, none⟩))) := (Fr.refl (fun k => k = g) w).setCell (p := ⟨g, 0, none⟩) (.inl rfl) _
    exact ⟨rfl, ⟨h.1.set_ 0 _, own_keep h.2.1 hf (fun k hk e => own_ne h.2.1 h.1 (by decide) (by rw [hk, e])), Nat.le_trans h.2.2 hf.size⟩, hf⟩

/-- What a builder's method may turn. -/
def BuF (g : Nat) (v : Value) (k : Nat) : Prop := k = g ∨ v.ownBlock = some k

theorem infoU8 : (Try.prog.info? 5).map (fun i => (i.zero, i.size, i.bytes)) = some (some (.int .u8 0), 1, 1) := by kernel_rfl
set_option maxHeartbeats 1000000 in
theorem arune_any {w : World} {B : Nat} {v : Value} {l : List UInt8} (hown : w.ownsRow B 5 1 v l.length (cellsB l)) (hB : B ≤ w.heap.size) (c : UInt8) (hc : c.toNat < 128) (hb : l.length + 1 ≤ 140737488355328) :
    Calls Try.prog 43 #[v, .int .i32 (c.toNat : Int)] w fun e w' => ∃ v', e = .returned v' ∧ w'.ownsRow B 5 1 v' (l.length + 1) (cellsB (l ++ [c])) ∧ (∃ A n k, v' = .slice A n k) ∧
      (w.alloc (.cells #[.int .u8 (c.toNat : Int)] 5)).grownBy w' (v.ownBlock) ∧ (v'.ownBlock = v.ownBlock ∨ ∃ k, v'.ownBlock = some k ∧ w.heap.size < k) := by
  obtain ⟨i0, hi, hz0, hz1, hz2⟩ := info_parts infoU8
  have HW := Lib.hid (And.intro hown hB)
  have HB := Lib.hid hb
  have hw1 : IntKind.u32.wrap (c.toNat : Int) = (c.toNat : Int) := by simp [IntKind.wrap, IntKind.signed, IntKind.bits]; omega
  have hw2 : IntKind.u8.wrap (c.toNat : Int) = (c.toNat : Int) := by simp [IntKind.wrap, IntKind.signed, IntKind.bits]; omega
  have hc1 : (c.toNat : Int) ≤ 127 := by omega
  have HR := Lib.hid (Rd.one w 5 c)
  have HZ : Hid (B ≤ (w.alloc (.cells #[.int .u8 (c.toNat : Int)] 5)).heap.size) := Lib.hid (by simp; omega)
  clear hown hB hb
  go_enter Try.func43, Try.ntmps43
  go_wp2_with (at_builtin; refine wpList_append_bytes _ rfl (.tmp 8) (.tmp 11) 40 rfl B 5 i0 (.int .u8 0) Try.underlying40 hi hz0 hz1 hz2 rfl v l [c] rfl (World.ownsRow.alloc HW.out.1 _) (some ⟨w.heap.size, 0, none⟩) 1 1 rfl HR.out HB.out HZ.out ?_; intro v' w' hown hgrow hat; obtain ⟨A', n', c', rfl⟩ := own_form hown; have HO := Lib.hid (And.intro hown (And.intro hgrow hat)); clear hown hgrow hat)
  go_ret
  obtain ⟨hown, hgrow, hat⟩ := HO.out
  refine ⟨_, rfl, by simpa using hown, ⟨_, _, _, rfl⟩, hgrow, ?_⟩
  rcases hat with q | q
  · exact .inl q
  · refine .inr ⟨_, q, ?_⟩
    simp
set_option maxHeartbeats 1000000 in
theorem wrune_any {w : World} {B g : Nat} {v : Value} {l : List UInt8} {f : Bool} (h : Bu w B g v l f) (c : UInt8) (hc : c.toNat < 128) (hb : l.length + 1 ≤ 140737488355328) :
    Calls Try.prog 35 #[.pointer (some ⟨g, 0, none⟩), .int .i32 (c.toNat : Int)] w fun e w' => (∃ n : Int, e = .returned (.tuple #[.int .i64 n, .nilIface])) ∧
      ∃ v', Bu w' B g v' (l ++ [c]) true ∧ Fr (BuF g v) w w' ∧ (∀ k, v'.ownBlock = some k → v.ownBlock = some k ∨ w.heap.size ≤ k) := by
  have H := Lib.hid h
  have HB := Lib.hid hb
  obtain ⟨A0, c0, hv0, _⟩ := own_slice h.2.1
  obtain ⟨x, hx⟩ : ∃ x, x = l.length := ⟨_, rfl⟩
  have HL := Lib.hid hx
  rw [← hx] at hv0
  subst hv0
  clear h hb hx
  go_enter Try.func35, Try.ntmps35
  go_wp2_with fail
  refine (check_any H.out).mono ?_
  rintro e w1 ⟨rfl, h1, f1⟩
  have h0 := h1.1.cell 1
  have fz := h1.1.frozen 1
  simp at h0
  have H1 := Lib.hid (And.intro h1 f1)
  clear h1 f1
  go_wp2_with fail
  refine (arune_any H1.out.1.2.1 H1.out.1.2.2 c hc HB.out).mono ?_
  rintro e w2 ⟨v', rfl, hown, ⟨A', n', c', rfl⟩, hgrow, hat⟩
  have hgo : (Value.slice A0 x c0).ownBlock ≠ some g := own_ne H1.out.1.2.1 H1.out.1.1 (by decide)
  have hlt := H1.out.1.1.lt
  have hb' : Blk w2 g 58 #[.pointer (some ⟨g, 0, none⟩), .slice A0 x c0] := (hgrow.block g (by simp; omega) (fun e => hgo e.symm)).trans (H1.out.1.1.keep (F := fun _ => False) ((Fr.refl _ w1).alloc _) id)
  have h0' := hb'.cell 1
  have fz' := hb'.frozen 1
  simp at h0'
  have HO := Lib.hid (And.intro hown (And.intro hgrow (And.intro hat (And.intro hgo hb'))))
  clear hown hgrow hat hgo hb' hlt
  go_wp2_with fail
  go_ret2
  obtain ⟨hown, hgrow, hat, hgo, hb'⟩ := HO.out
  have hs1 := H1.out.2.size
  have hF : Fr (BuF g (.slice A0 x c0)) w w2 := (((H1.out.2.mono (fun _ _ e => .inl e)).alloc _).grown hgrow (fun k hk => .inl (.inr hk)))
  refine ⟨⟨_, rfl⟩, .slice A' n' c', ⟨hb'.set_ 1 _, ?_, ?_⟩, hF.setCell (p := ⟨g, 1, none⟩) (.inl (.inl rfl)) _, ?_⟩
  · rw [List.length_append]
    exact own_keep hown ((Fr.refl (fun k => k = g) w2).setCell (p := ⟨g, 1, none⟩) (.inl rfl) _) (fun k hk e => own_ne hown hb' (by decide) (by rw [hk, e]))
  · have := H1.out.1.2.2
    have := hgrow.size
    simp [World.setCell] at this ⊢
    omega
  · intro k hk
    rcases hat with q | ⟨k2, q, q2⟩
    · exact .inl (q ▸ hk)
    · rw [hk] at q
      injection q with q
      exact .inr (by omega)
theorem cellsU8 : Try.prog.cellsOf 5 = 1 := by kernel_rfl

set_option maxHeartbeats 1000000 in
theorem bstr_ok {w : World} {B g : Nat} {v : Value} {l : List UInt8} {f : Bool} (h : Bu w B g v l f) (h0 : l ≠ []) :
    Calls Try.prog 36 #[.pointer (some ⟨g, 0, none⟩)] w fun e w' => e = .returned (.string ⟨l.toArray⟩) ∧ Below B w w' := by
  obtain ⟨hbk, hown, hB⟩ := h
  have hl0 : l.length ≠ 0 := by simpa using h0
  obtain ⟨gr, cap, cur, rfl, hbg, hg, hnc, hcm, hcs, htake⟩ : ∃ gr cap cur, v = .slice (some ⟨gr, 0, none⟩) l.length cap ∧ B ≤ gr ∧ w.heap[gr]? = some (.cells cur 5 (0, 0)) ∧ l.length ≤ cap ∧ cap ≤ maxLen ∧ cur.size = cap * 1 ∧ cur.toList.take (l.length * 1) = cellsB l := by
    rcases hown.2 with ⟨_, hz⟩ | ⟨gr, cap, cur, hv, r⟩
    · exact absurd hz hl0
    · exact ⟨gr, cap, cur, hv, r⟩
  have c1 : w.drew.cell? ⟨g, 1, none⟩ = some (.slice (some ⟨gr, 0, none⟩) l.length cap) := by
    have := hbk.cell 1
    simpa using this
  have hSD : (Builtin.unsafeSliceData_ #[40] 69 #[.slice (some ⟨gr, 0, none⟩) l.length cap]).run Try.prog w.drew = .ok (.pointer (some ⟨gr, 0, none⟩)) w.drew :=
    Lib.run_unsafeSliceData_row _ _ _ _ _ _ (by omega)
  have hUS : (Builtin.unsafeString_ #[69, 3] 9 #[.pointer (some ⟨gr, 0, none⟩), .int .i64 l.length]).run Try.prog w.drew = .ok (.string ⟨l.toArray⟩) (w.drew.freeze ⟨gr, 0, none⟩ l.length) := by
    refine Lib.run_unsafeString_row w.drew 69 3 9 5 Try.underlying69 cellsU8 gr cur.size (by have hg' : w.drew.heap[gr]? = some (.cells cur 5 (0, 0)) := hg; simp [World.shape?, hg']) l h0 (by omega) (by unfold maxLen at hcm; omega) ?_
    intro j x hx
    exact hown.cells (g := gr) rfl j (.int .u8 x.toNat) (by simp [cellsB, hx])
  have HB := Lib.hid hbg
  clear hbk hown hB hl0 hbg hg hnc hcm hcs htake h0
  go_enter Try.func36, Try.ntmps36
  go_wp2
  go_region
  all_goals (go_wp2; go_ret; exact ⟨rfl, Lib.below_freeze (Below.drew (Below.refl B w)) (p := ⟨gr, 0, none⟩) HB.out _⟩)

set_option maxHeartbeats 1000000 in
theorem bstr_nil {w : World} {g : Nat} {a : Value} (h : Blk w g 58 #[a, .slice none 0 0]) :
    Calls Try.prog 36 #[.pointer (some ⟨g, 0, none⟩)] w fun e w' => e = .returned (.string ⟨#[]⟩) ∧ Below w.heap.size w w' := by
  have hUS : (Builtin.unsafeString_ #[69, 3] 9 #[.pointer none, .int .i64 0]).run Try.prog w.drew = .ok (.string ⟨#[]⟩) w.drew := Lib.run_unsafeString_none _ _ _ _ none
  have c1 : w.drew.cell? ⟨g, 1, none⟩ = some (.slice none 0 0) := by
    have := h.cell 1
    simpa using this
  have hSD : (Builtin.unsafeSliceData_ #[40] 69 #[.slice none 0 0]).run Try.prog w.drew = .ok (.pointer none) w.drew := rfl
  clear h
  go_enter Try.func36, Try.ntmps36
  go_wp2
  go_region
  all_goals (go_wp2; go_ret; exact ⟨rfl, Below.drew (Below.refl _ w)⟩)
end Go.Proofs.Ytchofmncinbmcaa
