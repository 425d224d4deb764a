/- couponlaw04's own helpers: Fits (of couponref04), sectors, same; Open refused. -/
import Derived.Test.YtjdbgojnpnlblaaGreatVrh
namespace Go.Proofs.YtjdbgojnpnlblaaGreat
open Go.RowKit

def fitB (n z : Int) : Bool := decide (4 ≤ z) && (decide (z ≤ 4000) && decide (z < n))
theorem rfits_any (w : World) (n z : Int) : Calls Tryz.prog 11 #[.int .i64 n, .int .i64 z] w fun e w' => e = .returned (.bool (fitB n z)) ∧ w = w' := by
  by_cases h1 : z ≥ 4
  · by_cases h2 : z ≤ 4000
    · by_cases h3 : n > z
      · have e : fitB n z = true := by unfold fitB; rw [decide_eq_true h1, decide_eq_true h2, decide_eq_true h3]; rfl
        rw [e]
        have h3' : z < n := h3
        go_enter Tryz.func11, Tryz.ntmps11
        go_wp2_with fail
        go_ret
        exact ⟨rfl, rfl⟩
      · have e : fitB n z = false := by unfold fitB; rw [decide_eq_false (p := z < n) h3]; simp
        rw [e]
        have h3' : ¬ z < n := h3
        go_enter Tryz.func11, Tryz.ntmps11
        go_wp2_with fail
        go_ret
        exact ⟨rfl, rfl⟩
    · have e : fitB n z = false := by unfold fitB; rw [decide_eq_false (p := z ≤ 4000) h2]; simp
      rw [e]
      go_enter Tryz.func11, Tryz.ntmps11
      go_wp2_with fail
      go_ret
      exact ⟨rfl, rfl⟩
  · have e : fitB n z = false := by unfold fitB; rw [decide_eq_false (p := 4 ≤ z) h1]; simp
    rw [e]
    go_enter Tryz.func11, Tryz.ntmps11
    go_wp2_with fail
    go_ret
    exact ⟨rfl, rfl⟩

/-- Sectors in a block of one's own. -/
def SecB (w : World) (b : Nat) (ss : List (List UInt8)) : Prop := ∃ cs, Blk w b 45 cs ∧ ss.length * 128 ≤ cs.size ∧ (∀ s ∈ ss, s.length = 128) ∧ ∀ (i : Nat) (s : List UInt8), ss[i]? = some s → ∀ (j : Nat) (v : Value), (cellsB s)[j]? = some v → cs[i * 128 + j]? = some v
theorem SecB.keep {F : Nat → Prop} {w w' : World} {b : Nat} {ss : List (List UInt8)} (h : SecB w b ss) (f : Fr F w w') (hF : ¬ F b) : SecB w' b ss := by
  obtain ⟨cs, h1, h2⟩ := h
  exact ⟨cs, h1.keep f hF, h2⟩
theorem SecB.secV {w : World} {b : Nat} {ss : List (List UInt8)} {n cap : Nat} (h : SecB w b ss) (hn : n = ss.length) (h1 : ss.length ≤ cap) (h2 : cap ≤ maxLen) : SecV w (.slice (some ⟨b, 0, none⟩) n cap) ss := by
  obtain ⟨cs, q1, q2, q3, q4⟩ := h
  refine ⟨_, cap, by rw [hn], h1, h2, fun _ => ⟨b, 0, rfl, fun i s hi => ⟨q3 s (List.mem_of_getElem? hi), fun j v hv => ?_⟩⟩⟩
  rw [q1.cell, Nat.zero_add]
  exact q4 i s hi j v hv
theorem SecB.set {w : World} {b i : Nat} {s : List UInt8} {ss : List (List UInt8)} (h : SecB w b ss) (hi : i < ss.length) (hs : s.length = 128) : w.there b (i * 128) (cellsB s).toArray.size ∧ SecB (w.setCells b (i * 128) (cellsB s)) b (ss.set i s) := by
  obtain ⟨cs, q1, q2, q3, q4⟩ := h
  have hm : (i + 1) * 128 ≤ ss.length * 128 := Nat.mul_le_mul_right _ (by omega)
  have hz : (cellsB s).toArray.size = 128 := by simp [cellsB_len, hs]
  refine ⟨q1.there (by rw [hz]; omega), ?_⟩
  obtain ⟨cs', j1, j2, j3, j4⟩ := q1.range_set (vs := cellsB s) (o := i * 128) (by rw [cellsB_len, hs]; omega)
  refine ⟨cs', j1, by rw [List.length_set, j2]; exact q2, fun t ht => ?_, fun k t hk j v hv => ?_⟩
  · rcases List.mem_or_eq_of_mem_set ht with q | q
    · exact q3 t q
    · rw [q]; exact hs
  · by_cases e : k = i
    · subst e
      rw [List.getElem?_set_self hi] at hk
      injection hk with hk
      subst hk
      exact j3 j v hv
    · rw [List.getElem?_set_ne (fun q => e q.symm)] at hk
      have hj : j < 128 := by
        have := (List.getElem?_eq_some_iff.1 hv).1
        rwa [cellsB_len, q3 t (List.mem_of_getElem? hk)] at this
      rw [j4 (k * 128 + j) (by
        rw [cellsB_len, hs]
        rcases Nat.lt_or_gt_of_ne e with q | q
        · have : (k + 1) * 128 ≤ i * 128 := Nat.mul_le_mul_right _ (by omega)
          omega
        · have : (i + 1) * 128 ≤ k * 128 := Nat.mul_le_mul_right _ (by omega)
          omega)]
      exact q4 k t hk j v hv
theorem flat_at {ss : List (List UInt8)} (h : ∀ s ∈ ss, s.length = 128) : ∀ {i : Nat} {s : List UInt8}, ss[i]? = some s → ∀ (j : Nat) (v : Value), (cellsB s)[j]? = some v → (cellsB ss.flatten)[i * 128 + j]? = some v := by
  induction ss with
  | nil => intro i s hi; simp at hi
  | cons t ts ih =>
    intro i s hi j v hv
    have ht := h t (by simp)
    have e : cellsB (t :: ts).flatten = cellsB t ++ cellsB ts.flatten := by simp [cellsB]
    rw [e]
    cases i with
    | zero =>
      injection hi with hi
      subst hi
      rw [Nat.zero_mul, Nat.zero_add, List.getElem?_append_left (List.getElem?_eq_some_iff.1 hv).1]
      exact hv
    | succ i =>
      rw [List.getElem?_append_right (by rw [cellsB_len, ht]; omega), cellsB_len, ht, show (i + 1) * 128 + j - 128 = i * 128 + j by omega]
      exact ih (fun s hs => h s (by simp [hs])) hi j v hv
theorem secB_own {w : World} {base : Nat} {v : Value} {ss : List (List UInt8)} (h : w.ownsRow base 45 128 v ss.length (cellsB ss.flatten)) (h0 : 0 < ss.length) (hall : ∀ s ∈ ss, s.length = 128) : ∃ b cap, v = .slice (some ⟨b, 0, none⟩) ss.length cap ∧ base ≤ b ∧ ss.length ≤ cap ∧ cap ≤ maxLen ∧ SecB w b ss := by
  have hfl : (cellsB ss.flatten).length = ss.length * 128 := h.1
  rcases h.2 with ⟨_, q⟩ | ⟨b, cap, cs, rfl, q1, q2, q3, q4, q5, q6⟩
  · omega
  · have hsz : ss.length * 128 ≤ cs.size := by
      rw [q5]
      exact Nat.mul_le_mul_right _ q3
    refine ⟨b, cap, rfl, q1, q3, q4, cs, q2, hsz, hall, fun i s hi j v hv => ?_⟩
    have h1 := flat_at hall hi j v hv
    have h2 := h.cells (g := b) rfl _ _ h1
    rw [Addr.add_mid, Nat.zero_add] at h2
    have h3 : Blk w b 45 cs := q2
    rwa [h3.cell] at h2
/-- A sector put into a variable of its own. -/
theorem put128 (w1 : World) (s : List UInt8) (hs : s.length = 128) : ∃ W, W = (w1.alloc (.cells (cellsB (nought 128)).toArray 45)).setCells w1.heap.size 0 (cellsB s) ∧ Blk W w1.heap.size 45 (cellsB s).toArray ∧ W.rangeAt w1.heap.size 0 (cellsB s) ∧ Fr (fun _ => False) w1 W ∧ (w1.alloc (.cells (cellsB (nought 128)).toArray 45)).there w1.heap.size 0 (cellsB s).toArray.size := by
  have hb := Blk.new w1 45 (cellsB (nought 128)).toArray
  have h2 := hb.over (o := 0) (m := s) (by rw [nought_len]; omega)
  rw [patch_all (by rw [nought_len, hs])] at h2
  refine ⟨_, rfl, h2, fun j v hv => ?_, Fr.setCells (.inr (Nat.le_refl _)) ((Fr.refl _ w1).alloc _), hb.there (by simp [cellsB_len, nought_len, hs])⟩
  rw [h2.cell, Nat.zero_add]
  simpa using hv
theorem take_flat {l : List (List UInt8)} {k : Nat} {s : List UInt8} (h : l[k]? = some s) : (l.take (k + 1)).flatten = (l.take k).flatten ++ s := by
  rw [List.take_add_one, h]
  simp
set_option maxRecDepth 100000 in
set_option maxHeartbeats 2000000 in
theorem lsectors_any {w : World} {B g n : Nat} {P : Nat → Prop} {d : DS} (h : DAt w B P g d) (h0 : 0 < n) (hn : n ≤ d.rd.length) : Calls Tryz.prog 10 #[.pointer (some ⟨g, 0, none⟩), .int .i64 n] w fun e w' =>
    ∃ b cap, e = .returned (.slice (some ⟨b, 0, none⟩) n cap) ∧ w.heap.size ≤ b ∧ n ≤ cap ∧ cap ≤ maxLen ∧ SecB w' b (d.rd.take n) ∧ Fr (fun _ => False) w w' := by
  have hl := h.len
  have hn8 : n ≤ 8192 := by omega
  have HD := Lib.hid (And.intro h (And.intro hn h.all128))
  clear h hn hl
  go_enter Tryz.func10, Tryz.ntmps10
  go_wp2_with fail
  go_loopw [5, 6] (fun t i wr => ∃ k : Nat, i = .int .i64 k ∧ k ≤ n ∧ Hid (wr.ownsRow w.heap.size 45 128 t k (cellsB (d.rd.take k).flatten)) ∧ Hid (Fr (fun _ => False) w wr)) (fun _ i _ => n - (intOf i).toNat)
  case atStart => exact ⟨0, rfl, Nat.zero_le _, Lib.hid (World.ownsRow_nil _ _ _ _), Lib.hid (Fr.refl _ _)⟩
  case round =>
    obtain ⟨k, rfl, hk, HO, HF⟩ := hrel
    by_cases hlt : k < n
    · have hs : d.rd[k]? = some (d.rd.getD k []) := by have := HD.out.2.1; simp [show k < d.rd.length by omega]
      obtain ⟨s, hse⟩ : ∃ s, s = d.rd.getD k [] := ⟨_, rfl⟩
      have HR := Lib.hid (aread_any (HD.out.1.new HF.out) (k := k) (by have := HD.out.2.1; omega))
      rw [← hse] at HR hs
      have hsl : s.length = 128 := HD.out.2.2 s (List.mem_of_getElem? hs)
      have HS := Lib.hid (And.intro hs hsl)
      have hi1 : (k : Int) < (n : Int) := by omega
      clear hs hse hsl
      go_wp2_with fail
      refine HR.out.mono ?_
      rintro e w1 ⟨rfl, f1⟩
      obtain ⟨W, hW, _, hWr, hWf, hth⟩ := put128 w1 s HS.out.2
      have H1 := Lib.hid (And.intro hWr (And.intro (f1.trans hWf (fun _ _ q => q)) hth))
      have HWE := Lib.hid hW
      clear hWr hWf hth f1 HR hW
      go_wp2_with (first
        | (refine wpList_zero rfl 45 rfl zeroSector ?_)
        | (refine wpList_store_mid rfl 45 _ _ rfl w1.heap.size 0 (cellsB s).toArray rfl rfl H1.out.2.2 (by rw [infoSector]; simp [cellsB_len, HS.out.2]) (all_oneCell_toArray (cellsB_one _)) ?_; rw [← HWE.out])
        | (refine wpList_load_mid rfl 45 _ rfl w1.heap.size 0 rfl (cellsB s) _ H1.out.1 Tryz.underlying45 rfl (by rw [infoSector, cellsB_len, HS.out.2]) ?_)
        | (refine wpList_build_sec rfl (.tmp 21) rfl HS.out.2 rfl ?_)
        | (at_builtin; refine wpList_append_row rfl (.tmp 20) (.tmp 22) rfl w.heap.size u5 k (d.rd.take k).flatten s (own_keep HO.out (H1.out.2.1.alloc (.cells (cellsB s).toArray 45)) (fun _ _ q => q)) (R := W.heap.size) (m := 1) (c := 1) (Blk.new W _ _) (by rw [HS.out.2]) rfl rfl (by omega) (by have := HF.out.size; have := H1.out.2.1.size; simp only [World.size_alloc]; omega) ?_; intro v3 w3 ho3 hg3; have H3 := Lib.hid (And.intro ho3 hg3); clear ho3 hg3))
      have h3 := H3.out.1
      rw [← take_flat HS.out.1] at h3
      exact ⟨⟨k + 1, by go_num, hlt, Lib.hid h3, Lib.hid ((HF.out.trans (H1.out.2.1.alloc (.cells (cellsB s).toArray 45)) (fun _ _ q => q)).grown H3.out.2 (fun j e => .inr (own_low HO.out e)))⟩, by simp [intOf]; omega⟩
    · obtain rfl : k = n := by omega
      have hlen : (d.rd.take k).length = k := by rw [List.length_take]; have := HD.out.2.1; omega
      have hsb := secB_own (ss := d.rd.take k) (by rw [hlen]; exact HO.out) (by omega) (fun s hs => HD.out.2.2 s (List.mem_of_mem_take hs))
      rw [hlen] at hsb
      obtain ⟨b, cap, rfl, h1, h2, h3, h4⟩ := hsb
      have HE := Lib.hid (And.intro h1 (And.intro h2 (And.intro h3 h4)))
      clear h1 h2 h3 h4 hlen hlt hk
      go_wp2_with fail
      go_ret
      exact ⟨b, cap, rfl, HE.out.1, HE.out.2.1, HE.out.2.2.1, HE.out.2.2.2, HF.out⟩
set_option maxRecDepth 100000 in
set_option maxHeartbeats 2000000 in
theorem lsame_any {w : World} {u v : Value} {ss ts : List (List UInt8)} (hr : SecV w u ss) (ht : SecV w v ts) : Calls Tryz.prog 13 #[u, v] w fun e w' => e = .returned (.bool (decide (ss = ts))) ∧ Fr (fun _ => False) w w' := by
  obtain ⟨A1, c1, rfl, a1, a2, a3⟩ := hr
  obtain ⟨A2, c2, rfl, b1, b2, b3⟩ := ht
  obtain ⟨z, hz⟩ : ∃ z, z = decide (ss = ts) := ⟨_, rfl⟩
  rw [← hz]
  have hm1 : ss.length ≤ 9223372036854775807 := by simp only [maxLen] at a2; omega
  have hm2 : ts.length ≤ 9223372036854775807 := by simp only [maxLen] at b2; omega
  by_cases hl : ss.length = ts.length
  · obtain ⟨n, hn⟩ : ∃ n, n = ss.length := ⟨_, rfl⟩
    have hn2 : n = ts.length := by omega
    rw [← hn, ← hn2]
    rw [← hn] at a3 hm1
    rw [← hn2] at b3
    have HH := Lib.hid (And.intro hn (And.intro hn2 (And.intro a3 (And.intro b3 hz))))
    clear hn hn2 a1 a2 a3 b1 b2 b3 hl hm2 hz
    go_enter Tryz.func13, Tryz.ntmps13
    go_wp2_with fail
    go_loopw [5] (fun i wr => ∃ k : Nat, i = .int .i64 k ∧ k ≤ n ∧ Hid (∀ j, j < k → ss[j]? = ts[j]?) ∧ Hid (Fr (fun _ => False) w wr)) (fun i _ => n - (intOf i).toNat)
    case atStart => exact ⟨0, rfl, Nat.zero_le _, Lib.hid (fun j hj => absurd hj (by omega)), Lib.hid (Fr.refl _ _)⟩
    case round =>
      obtain ⟨k, rfl, hk, HE, HF⟩ := hrel
      by_cases hlt : k < n
      · obtain ⟨p1, o1, rfl, q1⟩ := HH.out.2.2.1 (by omega)
        obtain ⟨p2, o2, rfl, q2⟩ := HH.out.2.2.2.1 (by omega)
        obtain ⟨x, hx⟩ : ∃ x, ss[k]? = some x := ⟨_, List.getElem?_eq_getElem (by have := HH.out.1; omega)⟩
        obtain ⟨y, hy⟩ : ∃ y, ts[k]? = some y := ⟨_, List.getElem?_eq_getElem (by have := HH.out.2.1; omega)⟩
        obtain ⟨x1, x2⟩ := q1 k x hx
        obtain ⟨y1, y2⟩ := q2 k y hy
        have HX := Lib.hid (And.intro (q1.keep HF.out (fun q => q)) (And.intro (q2.keep HF.out (fun q => q)) (And.intro hx (And.intro hy (And.intro x1 y1)))))
        have hi0 : (0 : Int) ≤ (k : Int) := by omega
        have hi1 : (k : Int) < (n : Int) := by omega
        obtain ⟨bb, hbb⟩ : ∃ bb, bb = decide (x = y) := ⟨_, rfl⟩
        have hneq := sec_neq x y x1 y1
        rw [← hbb] at hneq
        have HBB := Lib.hid hbb
        have hszx : (Tryz.prog.info? 45).map (·.size) = some (cellsB x).length := by rw [infoSector, cellsB_len, x1]
        have hszy : (Tryz.prog.info? 45).map (·.size) = some (cellsB y).length := by rw [infoSector, cellsB_len, y1]
        have hu := Tryz.underlying45
        clear q1 q2 hx hy x1 x2 y1 y2 hbb
        go_wp2_with fail
        have HY := Lib.hid (And.intro (HX.out.1 k x HX.out.2.2.1).2 (HX.out.2.1 k y HX.out.2.2.2.1).2)
        refine wp_region_held_drew (S := fun w' => Fr (fun _ => False) wr w') (by kernel_rfl) ((Fr.refl _ _).drew) (fun hS0 => ?_)
        refine anyH_take 0 17 (.slice (some ⟨p1, o1, none⟩) n c1) rfl rfl (by kernel_rfl) (by kernel_rfl) (by kernel_rfl) (fun _ _ _ h => h) (.inl ⟨by rfl, fun w'' hS => by go_simp⟩) hS0 ?_
        (simp only [List.setIfInBounds_toArray, List.set_cons_zero, List.set_cons_succ])
        refine anyH_take 1 18 (.int .i64 (k : Nat)) rfl rfl (by kernel_rfl) (by kernel_rfl) (by kernel_rfl) (fun _ _ _ h => h) (.inl ⟨by rfl, fun w'' hS => by go_simp⟩) hS0 ?_
        (simp only [List.setIfInBounds_toArray, List.set_cons_zero, List.set_cons_succ])
        refine anyH_take 2 19 (.pointer (some ⟨p1, o1 + k * 128, none⟩)) rfl rfl (by kernel_rfl) (by kernel_rfl) (by kernel_rfl) (fun _ _ _ h => h) (.inl ⟨by rfl, fun w'' hS => by go_simp⟩) hS0 ?_
        (simp only [List.setIfInBounds_toArray, List.set_cons_zero, List.set_cons_succ])
        refine anyH_take 3 20 (av x) rfl rfl (by kernel_rfl) (by kernel_rfl) (by kernel_rfl) (fun _ _ _ h => h) (yieldsIf_load_mid (by rfl) _ _ rfl _ _ rfl _ _ (fun w' f => (fun j u hj => (f.cell (World.block_lt_of_cell? wr _ (HY.out.1 j u hj)) (fun q => q)).trans (HY.out.1 j u hj))) hu rfl hszx) hS0 ?_
        (simp only [List.setIfInBounds_toArray, List.set_cons_zero, List.set_cons_succ])
        refine anyH_take 4 21 (.slice (some ⟨p2, o2, none⟩) n c2) rfl rfl (by kernel_rfl) (by kernel_rfl) (by kernel_rfl) (fun _ _ _ h => h) (.inl ⟨by rfl, fun w'' hS => by go_simp⟩) hS0 ?_
        (simp only [List.setIfInBounds_toArray, List.set_cons_zero, List.set_cons_succ])
        refine anyH_take 5 22 (.int .i64 (k : Nat)) rfl rfl (by kernel_rfl) (by kernel_rfl) (by kernel_rfl) (fun _ _ _ h => h) (.inl ⟨by rfl, fun w'' hS => by go_simp⟩) hS0 ?_
        (simp only [List.setIfInBounds_toArray, List.set_cons_zero, List.set_cons_succ])
        refine anyH_take 6 23 (.pointer (some ⟨p2, o2 + k * 128, none⟩)) rfl rfl (by kernel_rfl) (by kernel_rfl) (by kernel_rfl) (fun _ _ _ h => h) (.inl ⟨by rfl, fun w'' hS => by go_simp⟩) hS0 ?_
        (simp only [List.setIfInBounds_toArray, List.set_cons_zero, List.set_cons_succ])
        refine anyH_take 7 24 (av y) rfl rfl (by kernel_rfl) (by kernel_rfl) (by kernel_rfl) (fun _ _ _ h => h) (yieldsIf_load_mid (by rfl) _ _ rfl _ _ rfl _ _ (fun w' f => (fun j u hj => (f.cell (World.block_lt_of_cell? wr _ (HY.out.2 j u hj)) (fun q => q)).trans (HY.out.2 j u hj))) hu rfl hszy) hS0 ?_
        (simp only [List.setIfInBounds_toArray, List.set_cons_zero, List.set_cons_succ])
        refine anyH_take 8 25 (.bool (!bb)) rfl rfl (by kernel_rfl) (by kernel_rfl) (by kernel_rfl) (fun _ _ _ h => h) (.inl ⟨by rfl, fun w'' hS => by go_simp⟩) hS0 ?_
        (simp only [List.setIfInBounds_toArray, List.set_cons_zero, List.set_cons_succ])
        refine wpAnyH_done (by kernel_rfl) ?_ _
        cases bb with
        | true =>
          have hxy : x = y := of_decide_eq_true HBB.out.symm
          have HXY := Lib.hid hxy
          clear hxy
          go_wp2_with fail
          refine ⟨⟨k + 1, by go_num, hlt, Lib.hid (fun j hj => ?_), Lib.hid (HF.out.trans hS0 (fun _ _ q => q))⟩, by simp [intOf]; omega⟩
          by_cases e : j = k
          · subst e
            rw [HX.out.2.2.1, HX.out.2.2.2.1, HXY.out]
          · exact HE.out j (by omega)
        | false =>
          have hzf : z = false := by
            rw [HH.out.2.2.2.2, decide_eq_false_iff_not]
            intro e
            have := HX.out.2.2.1
            rw [e, HX.out.2.2.2.1] at this
            injection this with this
            have h9 := HBB.out
            rw [this] at h9
            simp at h9
          go_wp2_with fail
          go_ret
          exact ⟨by rw [hzf]; rfl, HF.out.trans hS0 (fun _ _ q => q)⟩
      · obtain rfl : k = n := by omega
        have hzt : z = true := by
          rw [HH.out.2.2.2.2, decide_eq_true_eq]
          apply List.ext_getElem?
          intro i
          by_cases hi : i < k
          · exact HE.out i hi
          · rw [List.getElem?_eq_none (by have := HH.out.1; omega), List.getElem?_eq_none (by have := HH.out.2.1; omega)]
        clear hlt hk
        go_wp2_with fail
        go_ret
        exact ⟨by rw [hzt]; rfl, HF.out⟩
  · have hzf : z = false := by
      rw [hz, decide_eq_false_iff_not]
      intro e
      exact hl (by rw [e])
    have hne : ¬ ((ss.length : Int) = (ts.length : Int)) := by omega
    generalize ss.length = n1 at *
    generalize ts.length = n2 at *
    clear a1 a2 a3 b1 b2 b3 hz
    go_enter Tryz.func13, Tryz.ntmps13
    go_wp2_with fail
    go_ret
    exact ⟨by rw [hzf]; rfl, Fr.refl _ _⟩
set_option maxRecDepth 100000 in
theorem open_bad {w : World} {B g : Nat} {P : Nat → Prop} {d : DS} (h : DAt w B P g d) (z : Int) (hz0 : -9223372036854775808 ≤ z) (hz1 : z ≤ 9223372036854775807) (hf : fitE d.rd.length z = 2) : Calls Tryz.prog 8 #[.pointer (some ⟨g, 0, none⟩), .int .i64 z] w fun e w' =>
    e = .returned (.tuple #[.pointer none, .slice none 0 0, .int .i64 2]) ∧ w = w' := by
  have HT := Lib.hid (fits_any h z hz0 hz1)
  rw [hf] at HT
  clear h hf hz0 hz1
  go_enter Tryz.func8, Tryz.ntmps8
  go_wp2_with fail
  refine HT.out.mono ?_
  rintro e w1 ⟨rfl, rfl⟩
  clear HT
  go_wp2_with fail
  refine bodyPost_ret (results_tmp3 rfl _ _ _) rfl ?_
  exact ⟨rfl, rfl⟩
set_option maxRecDepth 100000 in
set_option maxHeartbeats 4000000 in
theorem open_nohead {w : World} {B g z : Nat} {P : Nat → Prop} {d : DS} (h : DAt w B P g d) (h4 : 4 ≤ z) (hz : z ≤ 4000) (hzl : z + 1 ≤ d.rd.length) (hx : isHd d.head = false) : Calls Tryz.prog 8 #[.pointer (some ⟨g, 0, none⟩), .int .i64 z] w fun e w' =>
    e = .returned (.tuple #[.pointer none, .slice none 0 0, .int .i64 6]) ∧ Fr (fun _ => False) w w' := by
  have HT := Lib.hid (fits_any h (z : Int) (by omega) (by omega))
  rw [show fitE d.rd.length (z : Int) = 0 by unfold fitE; rw [if_neg (by omega)]] at HT
  have HR := Lib.hid (wread_any h (N := z + 1) (by omega) hzl)
  have hxl : d.head.length = 128 := h.get128 (i := 0) (by omega)
  have hvl : hdVal d.head = hV 0 0 := by simp [hdVal, hx]
  have HW := Lib.hid fun w => whd_any w d.head hxl
  rw [hvl, hx] at HW
  have hd0 : (d.rd.take (z + 1))[0]? = some d.head := by
    unfold DS.head
    rw [List.getElem?_take, if_pos (by omega)]
    simp [show 0 < d.rd.length by omega]
  have hln : (d.rd.take (z + 1)).length = z + 1 := by rw [List.length_take]; omega
  have HH := Lib.hid (And.intro hd0 (And.intro hln hxl))
  clear h h4 hzl hx hvl hd0 hln hxl
  have e1 : (1 : Int) + (z : Int) = ((z + 1 : Nat) : Int) := by omega
  rw [Int.natCast_add] at HR
  have e2 : ((z : Int) + ((1 : Nat) : Int)) = 1 + (z : Int) := by omega
  rw [e2] at HR
  clear e1 e2
  go_enter Tryz.func8, Tryz.ntmps8
  go_wp2_with fail
  refine HT.out.mono ?_
  rintro e w1 ⟨rfl, rfl⟩
  clear HT
  go_wp2_with fail
  refine HR.out.mono ?_
  rintro e w1 ⟨v, rfl, hv, _, hf1⟩
  obtain ⟨A, cap, rfl, hc1, hc2, h3⟩ := hv
  obtain ⟨b, off, rfl, hsec⟩ := h3 (by rw [HH.out.2.1]; omega)
  have hr0 := (hsec 0 _ HH.out.1).2
  rw [Nat.zero_mul, Nat.add_zero] at hr0
  rw [HH.out.2.1]
  have hz0 : (0 : Int) < ((z + 1 : Nat) : Int) := by omega
  have H1 := Lib.hid (And.intro hr0 hf1)
  clear h3 hsec hr0 hf1 hc1 hc2 HR
  go_wp2_with (first
    | (refine wpList_load_mid rfl 45 _ rfl b off rfl (cellsB d.head) _ H1.out.1 Tryz.underlying45 rfl (by rw [infoSector, cellsB_len, HH.out.2.2]) ?_))
  refine (HW.out _).mono ?_
  rintro e w2 ⟨rfl, hf2⟩
  have HF2 := Lib.hid (H1.out.2.trans hf2 (fun _ _ q => q))
  clear hf2 HW hz0
  go_wp2_with fail
  refine bodyPost_ret (results_tmp3 rfl _ _ _) rfl ?_
  exact ⟨rfl, HF2.out.alloc _⟩
end Go.Proofs.YtjdbgojnpnlblaaGreat
