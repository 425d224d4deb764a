/- Rows of slots, as the document's page has them. -/
import Derived.Test.YtijdbngjnhhheaaPrb
namespace Go.Proofs.Ytijdbngjnhhheaa
open Go.RowKit

set_option maxRecDepth 100000 in
theorem infoSlot : (Try.prog.info? 99).map (fun i => (i.zero, i.size, i.bytes)) = some (some (.agg #[.bool false, .slice none 0 0]), 2, 32) := by kernel_rfl
/-- A slot's bytes do not lie in the row's own block. -/
def Off (v u : Value) : Prop := ∀ (ad : Addr) (n c : Nat), u = .slice (some ad) n c → 0 < n → v.ownBlock ≠ some ad.block
set_option maxRecDepth 100000 in
theorem RecV.on {F : Nat → Prop} {w w' : World} {o : Rec} {u0 u1 : Value} (h : RecV w o u0 u1) (f : Fr F w w') (hF : ∀ (ad : Addr) (n c : Nat), u1 = .slice (some ad) n c → 0 < n → ¬ F ad.block) : RecV w' o u0 u1 := by
  cases o with
  | none => exact h
  | some b =>
    obtain ⟨h1, A, c, h2, h3⟩ := h
    refine ⟨h1, A, c, h2, ?_⟩
    rcases Nat.eq_zero_or_pos b.length with h0 | h0
    · have : b = [] := List.eq_nil_of_length_eq_zero h0
      subst this
      exact Rd.nil _ _
    · exact h3.keep f fun ad e => hF ad _ _ (by rw [h2, e]) h0
set_option maxRecDepth 100000 in
theorem RecV.lt {w : World} {o : Rec} {u0 u1 : Value} (h : RecV w o u0 u1) {ad : Addr} {n c : Nat} (hu : u1 = .slice (some ad) n c) (hn : 0 < n) : ad.block < w.heap.size := by
  cases o with
  | none =>
    obtain ⟨_, h2⟩ := h
    rw [h2] at hu
    cases hu
  | some b =>
    obtain ⟨_, A, c', h2, h3⟩ := h
    rw [h2] at hu
    injection hu with e1 e2 e3
    obtain ⟨ad', hA, hl⟩ := h3.lt (by omega)
    rw [e1] at hA
    injection hA with hA
    subst hA
    exact hl
set_option maxRecDepth 100000 in
theorem RecV.ones {w : World} {o : Rec} {u0 u1 : Value} (h : RecV w o u0 u1) : u0.oneCell' = true ∧ u1.oneCell' = true := by
  cases o with
  | none =>
    obtain ⟨rfl, rfl⟩ := h
    exact ⟨rfl, rfl⟩
  | some b =>
    obtain ⟨rfl, A, c, rfl, _⟩ := h
    exact ⟨rfl, rfl⟩
/-- A slot's bytes lie below N. -/
def Und (N : Nat) (u : Value) : Prop := ∀ (ad : Addr) (n c : Nat), u = .slice (some ad) n c → 0 < n → ad.block < N
def SlV (w : World) (K : Value → Prop) (base : Nat) (v : Value) (s : List Rec) : Prop := ∃ us, w.ownsRow base 99 2 v s.length us ∧ ∀ (i : Nat) (o : Rec), s[i]? = some o → ∃ u0 u1 : Value, us[i * 2]? = some u0 ∧ us[i * 2 + 1]? = some u1 ∧ RecV w o u0 u1 ∧ Off v u1 ∧ K u1
/-- Slots whose bytes lie below N. -/
def RecsB (K : Value → Prop) (w : World) (A : Option Addr) (s : List Rec) : Prop := ∀ (i : Nat) (o : Rec), s[i]? = some o → ∃ (CB : Nat) (u0 u1 : Value), A = some ⟨CB, 0, none⟩ ∧ w.cell? ⟨CB, i * 2, none⟩ = some u0 ∧ w.cell? ⟨CB, i * 2 + 1, none⟩ = some u1 ∧ RecV w o u0 u1 ∧ K u1
set_option maxRecDepth 100000 in
theorem RecsB.onB {K K' : Value → Prop} {F : Nat → Prop} {w w' : World} {A : Option Addr} {s : List Rec} (h : RecsB K w A s) (f : Fr F w w') (hF : ∀ u, K u → ∀ (ad : Addr) (n c : Nat), u = .slice (some ad) n c → 0 < n → ¬ F ad.block) (hA : ∀ CB : Nat, A = some ⟨CB, 0, none⟩ → ¬ F CB) (hK : ∀ u, K u → K' u) : RecsB K' w' A s := fun i o hi => by
  obtain ⟨CB, u0, u1, h1, h2, h3, h4, h5⟩ := h i o hi
  exact ⟨CB, u0, u1, h1, (f.cell (World.block_lt_of_cell? w _ h2) (hA CB h1)).trans h2, (f.cell (World.block_lt_of_cell? w _ h3) (hA CB h1)).trans h3, h4.on f (fun ad n c e hn => hF u1 h5 ad n c e hn), hK u1 h5⟩
set_option maxRecDepth 100000 in
theorem RecsB.at_ {K : Value → Prop} {w : World} {A : Option Addr} {s : List Rec} (h : RecsB K w A s) : RecsAt w A s := fun i o hi => by
  obtain ⟨CB, u0, u1, h1, h2, h3, h4, h5⟩ := h i o hi
  exact ⟨CB, u0, u1, h1, h2, h3, h4⟩
set_option maxRecDepth 100000 in
theorem RecsB.onK {K : Value → Prop} {F : Nat → Prop} {w w' : World} {A : Option Addr} {s : List Rec} (h : RecsB K w A s) (f : Fr F w w') (hF : ∀ u, K u → ∀ (ad : Addr) (n c : Nat), u = .slice (some ad) n c → 0 < n → ¬ F ad.block) (hA : ∀ CB : Nat, A = some ⟨CB, 0, none⟩ → ¬ F CB) : RecsAt w' A s := (h.onB f hF hA (fun _ q => q)).at_
set_option maxRecDepth 100000 in
theorem RecsB.on {N : Nat} {F : Nat → Prop} {w w' : World} {A : Option Addr} {s : List Rec} (h : RecsB (Und N) w A s) (f : Fr F w w') (hF : ∀ b, F b → N ≤ b) (hA : ∀ CB : Nat, A = some ⟨CB, 0, none⟩ → ¬ F CB) : RecsAt w' A s :=
  h.onK f (fun u hu ad n c e hn q => by have := hF _ q; have := hu ad n c e hn; omega) hA
set_option maxRecDepth 100000 in
theorem RecsAt.und {w : World} {A : Option Addr} {s : List Rec} (h : RecsAt w A s) : RecsB (Und w.heap.size) w A s := fun i o hi => by
  obtain ⟨CB, u0, u1, h1, h2, h3, h4⟩ := h i o hi
  exact ⟨CB, u0, u1, h1, h2, h3, h4, fun ad n c e hn => h4.lt e hn⟩
set_option maxRecDepth 100000 in
theorem RecsB.take {K : Value → Prop} {w : World} {A : Option Addr} {s : List Rec} (h : RecsB K w A s) (k : Nat) : RecsB K w A (s.take k) := fun i o hi => by
  rw [List.getElem?_take] at hi
  split at hi
  · exact h i o hi
  · cases hi
set_option maxRecDepth 100000 in
theorem own_cells {w : World} {base e size : Nat} {v : Value} {n : Nat} {us : List Value} (h : w.ownsRow base e size v n us) (hn : 0 < n) : ∃ (CB cap : Nat) (cur : Array Value), v = .slice (some ⟨CB, 0, none⟩) n cap ∧ base ≤ CB ∧ n ≤ cap ∧ cap ≤ maxLen ∧ Blk w CB e cur ∧ cur.size = cap * size ∧ ∀ (j : Nat) (u : Value), us[j]? = some u → cur[j]? = some u := by
  rcases h.2 with ⟨rfl, h0⟩ | ⟨g, cap, cur, rfl, hb, hg, h1, h2, h3, h4⟩
  · omega
  · refine ⟨g, cap, cur, rfl, hb, h1, h2, hg, h3, fun j u hj => ?_⟩
    rw [← h4, List.getElem?_take] at hj
    split at hj
    · simpa using hj
    · cases hj
section
variable {w : World} {K : Value → Prop} {base : Nat} {v : Value} {s : List Rec}
set_option maxRecDepth 100000 in
theorem SlV.nil (w : World) (K : Value → Prop) (base : Nat) : SlV w K base (.slice none 0 0) [] := ⟨[], World.ownsRow_nil _ _ _ _, fun i o h => by simp at h⟩
set_option maxRecDepth 100000 in
theorem SlV.open_ (h : SlV w K base v s) (hn : 0 < s.length) : ∃ (CB cap : Nat) (cur : Array Value), v = .slice (some ⟨CB, 0, none⟩) s.length cap ∧ base ≤ CB ∧ s.length ≤ cap ∧ cap ≤ maxLen ∧ Blk w CB 99 cur ∧ cur.size = cap * 2 ∧
    ∀ (i : Nat) (o : Rec), s[i]? = some o → ∃ u0 u1 : Value, cur[i * 2]? = some u0 ∧ cur[i * 2 + 1]? = some u1 ∧ RecV w o u0 u1 ∧ Off v u1 ∧ K u1 := by
  obtain ⟨us, h1, h2⟩ := h
  obtain ⟨CB, cap, cur, hv, hb, hc1, hc2, hB, hs, hcells⟩ := own_cells h1 hn
  refine ⟨CB, cap, cur, hv, hb, hc1, hc2, hB, hs, fun i o hi => ?_⟩
  obtain ⟨u0, u1, q0, q1, q2, q3⟩ := h2 i o hi
  exact ⟨u0, u1, hcells _ _ q0, hcells _ _ q1, q2, q3⟩
set_option maxRecDepth 100000 in
theorem SlV.recs (h : SlV w K base v s) : ∃ A c, v = .slice A s.length c ∧ s.length ≤ c ∧ c ≤ maxLen ∧ RecsAt w A s := by
  rcases Nat.eq_zero_or_pos s.length with h0 | h0
  · obtain ⟨us, h1, _⟩ := h
    obtain ⟨A, c, hv, hc1, hc2⟩ := own_slice h1
    refine ⟨A, c, hv, hc1, hc2, fun i o hi => ?_⟩
    have := (List.getElem?_eq_some_iff.1 hi).1
    omega
  · obtain ⟨CB, cap, cur, hv, hb, hc1, hc2, hB, hs, hcells⟩ := h.open_ h0
    refine ⟨_, cap, hv, hc1, hc2, fun i o hi => ?_⟩
    obtain ⟨u0, u1, q0, q1, q2, _⟩ := hcells i o hi
    exact ⟨CB, u0, u1, rfl, (hB.cell _).trans q0, (hB.cell _).trans q1, q2⟩
set_option maxRecDepth 100000 in
theorem SlV.keep {F : Nat → Prop} {w' : World} (h : SlV w K base v s) (f : Fr F w w') (hv : ∀ b, v.ownBlock = some b → ¬ F b) (hF : ∀ u, K u → ∀ (ad : Addr) (n c : Nat), u = .slice (some ad) n c → 0 < n → ¬ F ad.block) : SlV w' K base v s := by
  obtain ⟨us, h1, h2⟩ := h
  refine ⟨us, own_keep h1 f hv, fun i o hi => ?_⟩
  obtain ⟨u0, u1, q0, q1, q2, q3, q4⟩ := h2 i o hi
  exact ⟨u0, u1, q0, q1, q2.on f (fun ad n c e hn => hF u1 q4 ad n c e hn), q3, q4⟩
set_option maxRecDepth 100000 in
theorem SlV.new {w' : World} (h : SlV w K base v s) (f : Fr (fun _ => False) w w') : SlV w' K base v s := h.keep f (fun _ _ q => q) (fun _ _ _ _ _ _ _ q => q)
set_option maxRecDepth 100000 in
/-- The cells of a row of slots. -/
theorem slot_cells {A : Option Addr} (hR : RecsB K w A s) (hn : 0 < s.length) : ∃ (CB : Nat) (us : List Value), A = some ⟨CB, 0, none⟩ ∧ us.length = s.length * 2 ∧ (∀ (j : Nat) (u : Value), us[j]? = some u → w.cell? ⟨CB, j, none⟩ = some u) ∧ (∀ u ∈ us, u.oneCell' = true) ∧
    ∀ (i : Nat) (o : Rec), s[i]? = some o → ∃ u0 u1 : Value, us[i * 2]? = some u0 ∧ us[i * 2 + 1]? = some u1 ∧ RecV w o u0 u1 ∧ K u1 := by
  obtain ⟨o0, ho0⟩ : ∃ o, s[0]? = some o := ⟨_, List.getElem?_eq_getElem hn⟩
  obtain ⟨CB, _, _, hA, _⟩ := hR 0 o0 ho0
  have hcell : ∀ j, j < s.length * 2 → ∃ u, w.cell? ⟨CB, j, none⟩ = some u ∧ u.oneCell' = true := fun j hj => by
    obtain ⟨o, ho⟩ : ∃ o, s[j / 2]? = some o := ⟨_, List.getElem?_eq_getElem (by omega)⟩
    obtain ⟨CB', u0, u1, hA', q0, q1, hr, _⟩ := hR (j / 2) o ho
    rw [hA] at hA'
    injection hA' with hA'
    injection hA' with hA'
    subst hA'
    rcases Nat.mod_two_eq_zero_or_one j with e | e
    · have e2 : j / 2 * 2 = j := by omega
      rw [e2] at q0
      exact ⟨u0, q0, hr.ones.1⟩
    · have e2 : j / 2 * 2 + 1 = j := by omega
      rw [e2] at q1
      exact ⟨u1, q1, hr.ones.2⟩
  have hat : ∀ j u, ((List.range (s.length * 2)).map fun j => (w.cell? ⟨CB, j, none⟩).getD (.bool false))[j]? = some u → w.cell? ⟨CB, j, none⟩ = some u ∧ u.oneCell' = true := fun j u hj => by
    rw [List.getElem?_map] at hj
    obtain ⟨k, hk, rfl⟩ := Option.map_eq_some_iff.1 hj
    obtain ⟨hk1, rfl⟩ := List.getElem?_eq_some_iff.1 hk
    rw [List.length_range] at hk1
    rw [List.getElem_range]
    obtain ⟨u, hu, hu1⟩ := hcell j hk1
    rw [hu]
    exact ⟨rfl, hu1⟩
  refine ⟨CB, (List.range (s.length * 2)).map fun j => (w.cell? ⟨CB, j, none⟩).getD (.bool false), hA, by simp, fun j u hj => (hat j u hj).1, fun u hu => ?_, fun i o hi => ?_⟩
  · obtain ⟨j, hj⟩ := List.getElem?_of_mem hu
    exact (hat j u hj).2
  · obtain ⟨CB', u0, u1, hA', q0, q1, hr, hk⟩ := hR i o hi
    rw [hA] at hA'
    injection hA' with hA'
    injection hA' with hA'
    subst hA'
    have hl := (List.getElem?_eq_some_iff.1 hi).1
    refine ⟨u0, u1, ?_, ?_, hr, hk⟩
    · rw [List.getElem?_map, List.getElem?_range (by omega)]
      simp [q0]
    · rw [List.getElem?_map, List.getElem?_range (by omega)]
      simp [q1]
set_option maxRecDepth 100000 in
/-- A row of slots put behind nothing: its copy. -/
theorem run_copy_slots {w0 : World} {A : Option Addr} {c n : Nat} (hR : RecsB K w0 A s) (f0 : Fr (fun _ => False) w0 w) (hn : n = s.length) (hN : n ≤ 1000) (ty : TypeId) : ∃ v' w', (Builtin.append_ #[72, 72] ty #[.slice none 0 0, .slice A n c]).run Try.prog w = .ok v' w' ∧ SlV w' (fun u => K u ∧ Und w0.heap.size u) w.heap.size v' s ∧ Fr (fun _ => False) w w' := by
  obtain ⟨i0, hi, hz0, hz1, hz2⟩ := info_parts infoSlot
  subst hn
  rcases Nat.eq_zero_or_pos s.length with h0 | h0
  · have hs : s = [] := List.eq_nil_of_length_eq_zero h0
    subst hs
    refine ⟨.slice none 0 0, w, ?_, SlV.nil _ _ _, Fr.refl _ _⟩
    cases A <;> simp [Builtin.append_, run_underlying Try.underlying72, sizeOf, typeInfo, hi, Builtin.lenOf, Builtin.firstCells, loadCells, loadCellsFrom]
  · obtain ⟨CB, us, rfl, hul, hcell, hones, hrec⟩ := slot_cells hR h0
    have hcell2 : ∀ (j : Nat) (u : Value), us[j]? = some u → w.cell? ⟨CB, j, none⟩ = some u := fun j u hj => (f0.cell (World.block_lt_of_cell? w0 _ (hcell j u hj)) (fun q => q)).trans (hcell j u hj)
    obtain ⟨v', w', hrun, h2, h3, _, h5⟩ := run_append_own_at (P := Try.prog) w w.heap.size 72 ty 99 i0 (.agg #[.bool false, .slice none 0 0]) 2 32 Try.underlying72 hi hz0 hz1 hz2 (by rfl) (by omega) (.slice none 0 0) 0 [] (World.ownsRow_nil _ _ _ _) ⟨CB, 0, none⟩ s.length c us hul
      (fun j u hj => by rw [Addr.add_lit, Nat.zero_add]; exact hcell2 j u hj) hones (by simp only [maxLen]; omega) (by omega) (Nat.le_refl _)
    rw [Nat.zero_add, List.nil_append] at h2
    have f : Fr (fun _ => False) w w' := (Fr.refl _ _).grown h3 (fun k hk => by cases hk)
    refine ⟨v', w', hrun, ⟨us, h2, fun i o hi => ?_⟩, f⟩
    obtain ⟨u0, u1, q0, q1, q2, q5⟩ := hrec i o hi
    refine ⟨u0, u1, q0, q1, q2.new (f0.trans f (fun _ _ q => q)), fun ad n c e hn hb => ?_, q5, fun ad n c e hn => q2.lt e hn⟩
    obtain ⟨CB2, cap2, cur2, hv2, hb2, _⟩ := own_cells h2 h0
    rw [hv2] at hb
    have hlt := q2.lt e hn
    have hsz := f0.size
    simp only [Value.ownBlock, Option.some.injEq] at hb
    omega
set_option maxRecDepth 100000 in
/-- A slot put behind a row of slots. -/
theorem run_append_slot (h : SlV w K base v s) (hb : base ≤ w.heap.size) {B : Nat} {o : Rec} {u0 u1 : Value} (hB : Blk w B 99 #[u0, u1]) (hr : RecV w o u0 u1) (hoff : Off v u1) (hund : K u1) (hN : s.length ≤ 1000) (ty : TypeId) :
    ∃ v' w', (Builtin.append_ #[72, 72] ty #[v, .slice (some ⟨B, 0, none⟩) 1 1]).run Try.prog w = .ok v' w' ∧ SlV w' K base v' (s ++ [o]) ∧ Fr (fun b => v.ownBlock = some b) w w' ∧ (v'.ownBlock = v.ownBlock ∨ v'.ownBlock = some w.heap.size) := by
  obtain ⟨i0, hi, hz0, hz1, hz2⟩ := info_parts infoSlot
  obtain ⟨us, h1, h2⟩ := h
  obtain ⟨v', w', hrun, g2, g3, _, g5⟩ := run_append_own_at (P := Try.prog) w base 72 ty 99 i0 (.agg #[.bool false, .slice none 0 0]) 2 32 Try.underlying72 hi hz0 hz1 hz2 (by rfl) (by omega) v s.length us h1 ⟨B, 0, none⟩ 1 1 [u0, u1] rfl
    (fun j u hj => by
      rw [Addr.add_lit, Nat.zero_add, hB.cell]
      rw [← hj]
      simp) (by
      intro u hu
      simp only [List.mem_cons, List.not_mem_nil, or_false] at hu
      rcases hu with rfl | rfl
      · exact hr.ones.1
      · exact hr.ones.2) (by simp only [maxLen]; omega) (by omega) hb
  have f : Fr (fun b => v.ownBlock = some b) w w' := (Fr.refl _ _).grown g3 (fun k hk => .inl hk)
  have hoff2 : ∀ (o : Rec) (x0 x1 : Value), RecV w o x0 x1 → Off v x1 → Off v' x1 := fun o x0 x1 hx hof ad n c e hn hbk => by
    rcases g5 with g5 | g5
    · rw [g5] at hbk
      exact hof ad n c e hn hbk
    · rw [g5] at hbk
      have := hx.lt e hn
      injection hbk with hbk
      omega
  refine ⟨v', w', hrun, ⟨us ++ [u0, u1], by rw [List.length_append, List.length_singleton]; exact g2, fun i q hq => ?_⟩, f, g5⟩
  have hul := h1.1
  by_cases hlt : i < s.length
  · rw [List.getElem?_append_left hlt] at hq
    obtain ⟨x0, x1, q0, q1, q2, q3, q4⟩ := h2 i q hq
    exact ⟨x0, x1, by rw [List.getElem?_append_left (by omega)]; exact q0, by rw [List.getElem?_append_left (by omega)]; exact q1, q2.on f (fun ad n c e hn hb => q3 ad n c e hn hb), hoff2 q x0 x1 q2 q3, q4⟩
  · have hil := (List.getElem?_eq_some_iff.1 hq).1
    rw [List.length_append, List.length_singleton] at hil
    have e : i = s.length := by omega
    subst e
    rw [List.getElem?_append_right (Nat.le_refl _), Nat.sub_self] at hq
    injection hq with hq
    subst hq
    refine ⟨u0, u1, ?_, ?_, hr.on f (fun ad n c e hn hb => hoff ad n c e hn hb), hoff2 o u0 u1 hr hoff, hund⟩
    · rw [List.getElem?_append_right (by omega), hul, Nat.sub_self]; rfl
    · rw [List.getElem?_append_right (by omega), hul]
      have e : s.length * 2 + 1 - s.length * 2 = 1 := by omega
      rw [e]; rfl
set_option maxRecDepth 100000 in
/-- A slot stored into a row of slots. -/
theorem slot_store {CB cap : Nat} {cur : Array Value} (hv : v = .slice (some ⟨CB, 0, none⟩) s.length cap) (hB : Blk w CB 99 cur) (hs : cur.size = cap * 2) (hc : s.length ≤ cap)
    (hall : ∀ (i : Nat) (o : Rec), s[i]? = some o → ∃ u0 u1 : Value, cur[i * 2]? = some u0 ∧ cur[i * 2 + 1]? = some u1 ∧ RecV w o u0 u1 ∧ Off v u1 ∧ K u1) {i : Nat} {o : Rec} {u0 u1 : Value} (hr : RecV w o u0 u1) (hoff : Off v u1) (hund : K u1) (hi : i < s.length) :
    RecsB K ((w.setCell ⟨CB, i * 2, none⟩ u0).setCell ⟨CB, i * 2 + 1, none⟩ u1) (some ⟨CB, 0, none⟩) (s.set i o) := fun q p hq => by
  have hB2 := (hB.set_ (i * 2) u0).set_ (i * 2 + 1) u1
  have f : Fr (fun b => b = CB) w ((w.setCell ⟨CB, i * 2, none⟩ u0).setCell ⟨CB, i * 2 + 1, none⟩ u1) := ((Fr.refl (fun b => b = CB) w).setCell (p := ⟨CB, i * 2, none⟩) (.inl rfl) _).setCell (p := ⟨CB, i * 2 + 1, none⟩) (.inl rfl) _
  have hvb : v.ownBlock = some CB := by rw [hv]; rfl
  by_cases e : i = q
  · subst e
    rw [List.getElem?_set_self hi] at hq
    injection hq with hq
    subst hq
    refine ⟨CB, u0, u1, rfl, ?_, ?_, hr.on f (fun ad n c e hn hb => hoff ad n c e hn (by rw [hvb, hb])), hund⟩
    · rw [hB2.cell, Array.getElem?_setIfInBounds, if_neg (by omega), Array.getElem?_setIfInBounds, if_pos rfl, if_pos (by omega)]
    · rw [hB2.cell, Array.getElem?_setIfInBounds, if_pos rfl, if_pos (by simp; omega)]
  · rw [List.getElem?_set_ne e] at hq
    obtain ⟨x0, x1, q0, q1, q2, q3, q4⟩ := hall q p hq
    refine ⟨CB, x0, x1, rfl, ?_, ?_, q2.on f (fun ad n c e hn hb => q3 ad n c e hn (by rw [hvb, hb])), q4⟩
    · rw [hB2.cell, Array.getElem?_setIfInBounds, if_neg (by omega), Array.getElem?_setIfInBounds, if_neg (by omega)]; exact q0
    · rw [hB2.cell, Array.getElem?_setIfInBounds, if_neg (by omega), Array.getElem?_setIfInBounds, if_neg (by omega)]; exact q1
end
section
variable {ops : Array Oper} {o : Oper} {a : Act} {Q : Exit → Act → World → Prop}
set_option maxRecDepth 100000 in
theorem wpList_copy_slots {rest : List Oper} {w : World} (hg : o.guard = none) (x : Operand) (hop : o.op = Op.call { callee := Callee.builtin Builtin.append, args := #[.const (.slice none 0 0), x], argTypes := #[72, 72] })
    {K : Value → Prop} {w0 : World} {A : Option Addr} {c n : Nat} {s : List Rec} (hR : RecsB K w0 A s) (f0 : Fr (fun _ => False) w0 w) (hn : n = s.length) (hx : a.eval x = .slice A n c) (hN : n ≤ 1000)
    (hK : ∀ v' w', SlV w' (fun u => K u ∧ Und w0.heap.size u) w.heap.size v' s → Fr (fun _ => False) w w' → wpList Try.prog ops Q rest (a.put o.dst v') w') : wpList Try.prog ops Q (o :: rest) a w := by
  refine wpList_plain hg fun K hK' => ?_
  have hcv : a.eval (.const (.slice none 0 0)) = .slice none 0 0 := rfl
  obtain ⟨v', w', hrun, h2, h3⟩ := run_copy_slots (c := c) hR f0 hn hN o.type
  unfold Oper.wp
  simp [execOp, hop, resolve, invoke, builtin, hcv, hx, hrun, Result.andThen]
  exact hK' _ _ (hK v' w' h2 h3)
set_option maxRecDepth 100000 in
theorem wpList_append_slot {rest : List Oper} {w : World} (hg : o.guard = none) (s x : Operand) (hop : o.op = Op.call { callee := Callee.builtin Builtin.append, args := #[s, x], argTypes := #[72, 72] })
    {K : Value → Prop} {base : Nat} {v : Value} {l : List Rec} (h : SlV w K base v l) (hb : base ≤ w.heap.size) {B : Nat} {p : Rec} {u0 u1 : Value} (hB : Blk w B 99 #[u0, u1]) (hr : RecV w p u0 u1) (hoff : Off v u1) (hund : K u1) (hN : l.length ≤ 1000) (hs : a.eval s = v) (hx : a.eval x = .slice (some ⟨B, 0, none⟩) 1 1)
    (hK : ∀ v' w', SlV w' K base v' (l ++ [p]) → Fr (fun b => v.ownBlock = some b) w w' → (v'.ownBlock = v.ownBlock ∨ v'.ownBlock = some w.heap.size) → wpList Try.prog ops Q rest (a.put o.dst v') w') : wpList Try.prog ops Q (o :: rest) a w := by
  refine wpList_plain hg fun K hK' => ?_
  obtain ⟨v', w', hrun, h2, h3, h4⟩ := run_append_slot h hb hB hr hoff hund hN o.type
  unfold Oper.wp
  simp [execOp, hop, resolve, invoke, builtin, hs, hx, hrun, Result.andThen]
  exact hK' _ _ (hK v' w' h2 h3 h4)
end
end Go.Proofs.Ytijdbngjnhhheaa
