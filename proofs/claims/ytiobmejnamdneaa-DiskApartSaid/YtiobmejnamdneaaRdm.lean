/- The document's disk, in memory: each sector's versions stand in a block of their own, which is never written again. New. -/
import Derived.Test.YtiobmejnamdneaaSam
namespace Go.Proofs.Ytiobmejnamdneaa
open Go.RowKit Go.Maps

theorem infoSs : (Try.prog.info? 38).map (fun i => (i.zero, i.size, i.bytes)) = some (some (.slice none 0 0), 1, 24) := by kernel_rfl

/-- Of each sector its versions; how many steps are left (below 0: any number); is it dead? -/
structure RD where
  V : List (List (List UInt8))
  left : Int
  dead : Bool
structure RefW (w : World) (g : Nat) (v : Value) (vs : List Value) (r : RD) : Prop where
  blk : Blk w g 41 #[v, .int .i64 r.left, .bool r.dead]
  row : w.ownsRow 0 38 1 v r.V.length vs
  els : ∀ (i : Nat) x ss, vs[i]? = some x → r.V[i]? = some ss → w.ownsRow 0 31 128 x ss.length (cellsB ss.flatten) ∧ ss ≠ [] ∧ ∀ s ∈ ss, s.length = 128
/-- Its blocks. -/
def RIn (g : Nat) (v : Value) (vs : List Value) (b : Nat) : Prop := b = g ∨ v.ownBlock = some b ∨ ∃ x ∈ vs, x.ownBlock = some b
theorem own_lt {w : World} {base e size n : Nat} {v : Value} {xs : List Value} (h : w.ownsRow base e size v n xs) {b : Nat} (hb : v.ownBlock = some b) : b < w.heap.size := by
  rcases h.2 with ⟨q, _⟩ | ⟨b', cap, cur, q, _, hbb, _⟩
  · rw [q] at hb; simp [Value.ownBlock] at hb
  · rw [q] at hb
    have hb2 : b' = b := by simpa [Value.ownBlock] using hb
    rw [← hb2]
    exact (Array.getElem?_eq_some_iff.1 hbb).1
theorem own_apart2 {w : World} {base base' e e' size size' n n' : Nat} {v v' : Value} {xs xs' : List Value} (h : w.ownsRow base e size v n xs) (k : w.ownsRow base' e' size' v' n' xs') (hne : e ≠ e') {b : Nat} (hb : v.ownBlock = some b) : v'.ownBlock ≠ some b := by
  rcases h.2 with ⟨rfl, _⟩ | ⟨g, cap, cur, rfl, _, hg, _⟩
  · simp [Value.ownBlock] at hb
  · have e1 : g = b := by simpa [Value.ownBlock] using hb
    subst e1
    rcases k.2 with ⟨rfl, _⟩ | ⟨g', cap', cur', rfl, _, hg', _⟩
    · simp [Value.ownBlock]
    · intro q
      have : g' = g := by simpa [Value.ownBlock] using q
      subst this
      exact Blk.ne_ (t := e) hg hg' hne rfl
section
variable {w w' : World} {G : Nat → Prop} {g : Nat} {v : Value} {vs : List Value} {r : RD}
theorem RefW.len (h : RefW w g v vs r) : vs.length = r.V.length := by have := h.row.1; omega
theorem RefW.at_ (h : RefW w g v vs r) {i : Nat} {ss : List (List UInt8)} (hi : r.V[i]? = some ss) : ∃ x, vs[i]? = some x ∧ w.ownsRow 0 31 128 x ss.length (cellsB ss.flatten) ∧ ss ≠ [] ∧ ∀ s ∈ ss, s.length = 128 := by
  have hl : i < vs.length := by have := (List.getElem?_eq_some_iff.1 hi).1; have := h.len; omega
  exact ⟨vs[i], List.getElem?_eq_getElem hl, h.els i _ ss (List.getElem?_eq_getElem hl) hi⟩
theorem RefW.el (h : RefW w g v vs r) {x : Value} (hx : x ∈ vs) : ∃ ss : List (List UInt8), w.ownsRow 0 31 128 x ss.length (cellsB ss.flatten) := by
  obtain ⟨i, hi⟩ := List.getElem?_of_mem hx
  have hl : i < r.V.length := by have := (List.getElem?_eq_some_iff.1 hi).1; have := h.len; omega
  exact ⟨_, (h.els i x _ hi (List.getElem?_eq_getElem hl)).1⟩
theorem RefW.in_lt (h : RefW w g v vs r) {b : Nat} (hb : RIn g v vs b) : b < w.heap.size := by
  rcases hb with rfl | hb | ⟨x, hx, hb⟩
  · exact h.blk.lt
  · exact own_lt h.row hb
  · obtain ⟨ss, hs⟩ := h.el hx
    exact own_lt hs hb
theorem RefW.keep (h : RefW w g v vs r) (f : Fr G w w') (hG : ∀ b, RIn g v vs b → ¬ G b) : RefW w' g v vs r :=
  ⟨h.blk.keep f (hG _ (.inl rfl)), own_keep h.row f (fun b hb => hG _ (.inr (.inl hb))), fun i x ss hx hs => by
    obtain ⟨h1, h2, h3⟩ := h.els i x ss hx hs
    exact ⟨own_keep h1 f (fun b hb => hG _ (.inr (.inr ⟨x, List.mem_of_getElem? hx, hb⟩))), h2, h3⟩⟩
/-- The blocks lie apart. -/
theorem RefW.g_row (h : RefW w g v vs r) : v.ownBlock ≠ some g := own_ne h.row h.blk (by decide)
theorem RefW.g_el (h : RefW w g v vs r) {x : Value} (hx : x ∈ vs) : x.ownBlock ≠ some g := by
  obtain ⟨ss, hs⟩ := h.el hx
  exact own_ne hs h.blk (by decide)
theorem RefW.row_el (h : RefW w g v vs r) {x : Value} (hx : x ∈ vs) {b : Nat} (hb : x.ownBlock = some b) : v.ownBlock ≠ some b := by
  obtain ⟨ss, hs⟩ := h.el hx
  exact own_apart2 hs h.row (by decide) hb

/-- Behind a frame that turns its struct and its row alone, if the struct's block holds what it shall, and the row too. -/
theorem RefW.turn (h : RefW w g v vs r) (f : Fr (fun b => b = g ∨ v.ownBlock = some b) w w') {v' : Value} {vs' : List Value} {r' : RD} (hb : Blk w' g 41 #[v', .int .i64 r'.left, .bool r'.dead])
    (hr : w'.ownsRow 0 38 1 v' r'.V.length vs')
    (he : ∀ (i : Nat) x ss, vs'[i]? = some x → r'.V[i]? = some ss → (x ∈ vs ∧ r.V[i]? = some ss ∧ vs[i]? = some x) ∨ (w'.ownsRow 0 31 128 x ss.length (cellsB ss.flatten) ∧ ss ≠ [] ∧ ∀ s ∈ ss, s.length = 128)) : RefW w' g v' vs' r' :=
  ⟨hb, hr, fun i x ss hx hs => by
    rcases he i x ss hx hs with ⟨hm, hs', hx'⟩ | q
    · obtain ⟨h1, h2, h3⟩ := h.els i x ss hx' hs'
      refine ⟨own_keep h1 f (fun b hb2 q => ?_), h2, h3⟩
      rcases q with rfl | q
      · exact h.g_el hm hb2
      · exact h.row_el hm hb2 q
    · exact q⟩
end

/-- An append to a row of lists of sectors. -/
theorem run_append_ss {w : World} (ty : TypeId) {v : Value} {n : Nat} {vs us : List Value} (h : w.ownsRow 0 38 1 v n vs) {B m : Nat} (hc : ∀ j u, us[j]? = some u → w.cell? ⟨B, j, none⟩ = some u) (hm : us.length = m) (h1 : ∀ u ∈ us, u.oneCell' = true) (c : Nat) (hlen : n + m ≤ 1000000) :
    ∃ v' w', (Builtin.append_ #[39, 39] ty #[v, .slice (some ⟨B, 0, none⟩) m c]).run Try.prog w = .ok v' w' ∧ w'.ownsRow 0 38 1 v' (n + m) (vs ++ us) ∧ w.grownBy w' v.ownBlock ∧ (v'.ownBlock = v.ownBlock ∨ v'.ownBlock = some w.heap.size) := by
  obtain ⟨i0, hi, hq0, hq1, hq2⟩ := info_parts infoSs
  obtain ⟨v', w', hrun, g2, g3, _, g5⟩ := run_append_own_at (P := Try.prog) w 0 39 ty 38 i0 (.slice none 0 0) 1 24 Try.underlying39 hi hq0 hq1 hq2 (by rfl) (by omega) v n vs h ⟨B, 0, none⟩ m c us
    (by omega) (fun j u hj => by
      rw [Addr.add_lit, Nat.zero_add]
      exact hc j u hj) h1 (by simp only [maxLen]; omega) (by omega) (Nat.zero_le _)
  exact ⟨v', w', hrun, g2, g3, g5⟩
section
variable {ops : Array Oper} {o : Oper} {a : Act} {Q : Exit → Act → World → Prop}
theorem wpList_append_ss {rest : List Oper} {w : World} (hg : o.guard = none) (s x : Operand) (hop : o.op = Op.call { callee := Callee.builtin Builtin.append, args := #[s, x], argTypes := #[39, 39] })
    {v : Value} {n : Nat} {vs us : List Value} (h : w.ownsRow 0 38 1 v n vs) {B m : Nat} (hc : ∀ j u, us[j]? = some u → w.cell? ⟨B, j, none⟩ = some u) (hm : us.length = m) (h1 : ∀ u ∈ us, u.oneCell' = true) (c : Nat) (hs : a.eval s = v) (hx : a.eval x = .slice (some ⟨B, 0, none⟩) m c)
    (hlen : n + m ≤ 1000000)
    (hK : ∀ v' w', w'.ownsRow 0 38 1 v' (n + m) (vs ++ us) → w.grownBy w' v.ownBlock → (v'.ownBlock = v.ownBlock ∨ v'.ownBlock = some w.heap.size) → wpList Try.prog ops Q rest (a.put o.dst v') w') : wpList Try.prog ops Q (o :: rest) a w := by
  refine wpList_plain hg fun K hK' => ?_
  obtain ⟨v', w', hrun, h2, h3, h4⟩ := run_append_ss o.type h hc hm h1 c hlen
  unfold Oper.wp
  simp [execOp, hop, resolve, invoke, builtin, hs, hx, hrun, Result.andThen]
  exact hK' _ _ (hK v' w' h2 h3 h4)
end

theorem zero_cells2 : Value.agg Try.zeroCells31 = av (nought 128) := by kernel_rfl
/-- A new one. -/
def newR (n : Nat) : RD := ⟨List.replicate n [nought 128], -1, false⟩
set_option maxRecDepth 100000 in
set_option maxHeartbeats 4000000 in
theorem rnew_any (w : World) {n : Nat} (h1 : n ≤ 8192) : Calls Try.prog 20 #[.int .i64 n] w fun e w' =>
    e = .returned (.pointer (some ⟨w.heap.size, 0, none⟩)) ∧ (∃ v vs, RefW w' w.heap.size v vs (newR n) ∧ ∀ b, RIn w.heap.size v vs b → w.heap.size ≤ b) ∧ Fr (fun _ => False) w w' := by
  obtain ⟨g, hg⟩ : ∃ g, g = w.heap.size := ⟨_, rfl⟩
  obtain ⟨q, hq⟩ : ∃ q, q = nought 128 := ⟨_, rfl⟩
  have HQ : Hid (q = nought 128 ∧ q.length = 128 ∧ (Value.agg Try.zeroCells31 = av q)) := Lib.hid ⟨hq, hq ▸ nought_len 128, hq ▸ zero_cells2⟩
  have hb0 := Blk.new w 41 #[.slice none 0 0, .int .i64 (-1), .bool false]
  have hf0 := (Fr.refl (fun _ => False) w).alloc (.cells #[.slice none 0 0, .int .i64 (-1), .bool false] 41)
  have H0 : Hid (RefW (w.alloc (.cells #[.slice none 0 0, .int .i64 (-1), .bool false] 41)) g (.slice none 0 0) [] (newR 0) ∧ (∀ b, RIn g (.slice none 0 0) [] b → g ≤ b) ∧ Fr (fun _ => False) w (w.alloc (.cells #[.slice none 0 0, .int .i64 (-1), .bool false] 41))) := Lib.hid ⟨⟨hg ▸ hb0, World.ownsRow_nil _ _ _ _, fun i x ss hx => by simp at hx⟩, fun b hb => by
    rcases hb with rfl | hb | ⟨x, hx, _⟩
    · exact Nat.le_refl _
    · simp [Value.ownBlock] at hb
    · simp at hx, hf0⟩
  have HGW := Lib.hid hg
  clear hb0 hf0 hq
  go_enter Try.func20, Try.ntmps20
  go_wp2_with fail
  rw [← hg]
  generalize w.alloc (.cells #[.slice none 0 0, .int .i64 (-1), .bool false] 41) = w1 at *
  clear hg
  go_loopw [4] (fun x wr => ∃ k : Nat, x = .int .i64 k ∧ k ≤ n ∧ Hid (∃ v vs, RefW wr g v vs (newR k) ∧ (∀ b, RIn g v vs b → g ≤ b) ∧ Fr (fun _ => False) w wr)) (fun x _ => n - (intOf x).toNat)
  case atStart => exact ⟨0, rfl, Nat.zero_le _, Lib.hid ⟨_, _, H0.out⟩⟩
  case round =>
    obtain ⟨k, rfl, hk, HR⟩ := hrel
    clear H0
    obtain ⟨v, vs, hR, hin, hfr⟩ := HR.out
    clear HR
    by_cases hlt : k < n
    · have ek : (newR k).V.length = k := by simp [newR]
      have hown := hR.row
      rw [ek] at hown
      obtain ⟨A, c, rfl, hkc, hcm⟩ := own_slice hown
      have c0 : wr.cell? ⟨g, 0, none⟩ = some (.slice A k c) := (hR.blk.cell 0).trans rfl
      have hgl := hR.blk.lt
      have f1 := (Fr.refl (fun _ => False) wr).alloc (.cells (cellsB q).toArray 31)
      have f2 := f1.alloc (.cells #[.slice (some ⟨wr.heap.size, 0, none⟩) 1 1] 38)
      have HRW := Lib.hid (And.intro hR (And.intro hin (And.intro hfr (And.intro hown f2))))
      clear hR hin hfr hown f1 f2 hkc hcm
      have HW2 : Hid (Blk ((wr.alloc (.cells (cellsB q).toArray 31)).alloc (.cells #[.slice (some ⟨wr.heap.size, 0, none⟩) 1 1] 38)) (wr.heap.size + 1) 38 #[.slice (some ⟨wr.heap.size, 0, none⟩) 1 1]) := Lib.hid (by
        have := Blk.new (wr.alloc (.cells (cellsB q).toArray 31)) 38 #[.slice (some ⟨wr.heap.size, 0, none⟩) 1 1]
        have e : (wr.alloc (.cells (cellsB q).toArray 31)).heap.size = wr.heap.size + 1 := by
          show (wr.heap.push _).size = wr.heap.size + 1
          simp
        rwa [e] at this)
      have HW1 : Hid (Blk ((wr.alloc (.cells (cellsB q).toArray 31)).alloc (.cells #[.slice (some ⟨wr.heap.size, 0, none⟩) 1 1] 38)) wr.heap.size 31 (cellsB q).toArray) := Lib.hid
        ((Blk.new wr 31 (cellsB q).toArray).keep (F := fun _ => False) ((Fr.refl _ _).alloc _) (fun q => q))
      have HS2 : Hid (((wr.alloc (.cells (cellsB q).toArray 31)).alloc (.cells #[.slice (some ⟨wr.heap.size, 0, none⟩) 1 1] 38)).heap.size = wr.heap.size + 2) := Lib.hid (by
        show ((wr.heap.push _).push _).size = wr.heap.size + 2
        simp)
      go_wp2_with (first
        | (rw [HQ.out.2.2]; refine wpList_build_sec rfl _ rfl HQ.out.2.1 rfl ?_)
        | (refine wpList_append_ss rfl (.tmp 16) (.tmp 19) rfl (own_keep HRW.out.2.2.2.1 HRW.out.2.2.2.2 (fun _ _ q => q)) (B := wr.heap.size + 1) (m := 1) (us := [.slice (some ⟨wr.heap.size, 0, none⟩) 1 1]) (fun j u hj => by rw [HW2.out.cell]; simpa using hj) rfl (by simp [Value.oneCell']) 1 rfl rfl (by omega) ?_; intro v' w' hv1 hv2 hv3; obtain ⟨A', m', c', rfl⟩ := own_form hv1; have fA : Fr (fun b => (Value.slice A k c).ownBlock = some b) _ w' := (Fr.refl _ _).grown hv2 (fun _ e => .inl e); have bg := (HRW.out.1.blk.keep HRW.out.2.2.2.2 (fun q => q)).keep fA HRW.out.1.g_row; have cg : w'.cell? ⟨g, 0, none⟩ = some (.slice A k c) := (bg.cell 0).trans rfl; have fg := bg.frozen 0))
      have fB : Fr (fun b => b = g ∨ (Value.slice A k c).ownBlock = some b) wr (w'.setCell ⟨g, 0, none⟩ (.slice A' m' c')) := ((HRW.out.2.2.2.2.mono (fun _ _ q => q.elim)).trans (fA.mono (fun _ _ q => .inr q)) (fun _ _ q => q)).setCell (p := ⟨g, 0, none⟩) (.inl (.inl rfl)) _
      have fC : Fr (fun b => b = g) w' (w'.setCell ⟨g, 0, none⟩ (.slice A' m' c')) := (Fr.refl (fun b => b = g) w').setCell (p := ⟨g, 0, none⟩) (.inl rfl) _
      have hne : (Value.slice A' m' c').ownBlock ≠ some g := by
        rcases hv3 with e | e
        · rw [e]; exact HRW.out.1.g_row
        · rw [e, HS2.out]; intro q; injection q; omega
      have bx := (HW1.out.keep fA (fun e => by have := own_lt HRW.out.2.2.2.1 e; omega)).keep fC (by show ¬ wr.heap.size = g; omega)
      have hx := own_one bx HQ.out.2.1
      have e1 : (newR (k + 1)).V.length = k + 1 := by simp [newR]
      have hR' : RefW (w'.setCell ⟨g, 0, none⟩ (.slice A' m' c')) g (.slice A' m' c') (vs ++ [.slice (some ⟨wr.heap.size, 0, none⟩) 1 1]) (newR (k + 1)) := by
        refine HRW.out.1.turn fB (bg.set_ 0 (.slice A' m' c')) (by rw [e1]; exact own_keep hv1 fC (fun b hb e => hne (by have e' : b = g := e; rw [← e']; exact hb))) (fun i x ss hxi hsi => ?_)
        have hlen : vs.length = k := by have := HRW.out.1.len; omega
        by_cases hik : i < k
        · rw [List.getElem?_append_left (by omega)] at hxi
          refine .inl ⟨List.mem_of_getElem? hxi, ?_, hxi⟩
          simp only [newR, List.getElem?_replicate] at hsi ⊢
          rw [if_pos hik]
          rwa [if_pos (by omega)] at hsi
        · rw [List.getElem?_append_right (by omega)] at hxi
          have hi0 : i - vs.length = 0 := by
            have := (List.getElem?_eq_some_iff.1 hxi).1
            simp at this
            omega
          rw [hi0] at hxi
          simp at hxi
          subst hxi
          simp only [newR, List.getElem?_replicate] at hsi
          rw [if_pos (by omega)] at hsi
          injection hsi with hsi
          subst hsi
          rw [← HQ.out.1]
          exact .inr ⟨by simpa using hx, by simp, fun s hs => by rw [List.mem_singleton.1 hs]; exact HQ.out.2.1⟩
      refine ⟨⟨k + 1, by go_num, by omega, Lib.hid ⟨_, _, hR', fun b hb => ?_, HRW.out.2.2.1.trans fB (fun b hb q => ?_)⟩⟩, by simp [intOf]; omega⟩
      · rcases hb with rfl | hb | ⟨x, hx, hb⟩
        · exact Nat.le_refl _
        · rcases hv3 with e | e
          · rw [e] at hb; exact HRW.out.2.1 b (.inr (.inl hb))
          · rw [e, HS2.out] at hb; injection hb; omega
        · rcases List.mem_append.1 hx with hx | hx
          · exact HRW.out.2.1 b (.inr (.inr ⟨x, hx, hb⟩))
          · rw [List.mem_singleton.1 hx] at hb
            have : wr.heap.size = b := by simpa [Value.ownBlock] using hb
            omega
      · have hgb : g ≤ b := by
          rcases q with rfl | q
          · exact Nat.le_refl _
          · exact HRW.out.2.1 b (.inr (.inl q))
        have := HGW.out
        omega
    · obtain rfl : k = n := by omega
      clear hlt hk
      go_wp2_with fail
      go_ret
      rw [← HGW.out]
      exact ⟨rfl, ⟨v, vs, hR, hin⟩, hfr⟩
end Go.Proofs.Ytiobmejnamdneaa
