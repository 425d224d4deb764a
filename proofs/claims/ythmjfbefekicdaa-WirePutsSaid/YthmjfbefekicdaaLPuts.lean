/- The law WirePuts, walked. -/
import Derived.Test.YthmjfbefekicdaaFew
import Derived.Test.YthmjfbefekicdaaKnown
import Derived.Deep.RegionHeld3
import Derived.LaidEqlPtr
namespace Go.Proofs.Ythmjfbefekicdaa
open Go.RowKit

theorem kind_still (n : Int) (w : World) : Calls Try.prog 14 #[.int .i64 n] w fun e w' => e = .returned (.int .i64 (kindOf n)) ∧ w' = w := (kind_any n w).mono fun _ _ ⟨he, hw⟩ => ⟨he, hw.symm⟩

/-- A writer behind puts. -/
def stP (o : Option (List UInt8)) : List PutD → Option (List UInt8)
  | [] => o
  | x :: r => stP (stepP o (kindOf x.kd) x.n x.s x.l) r
theorem stP_snoc (xs : List PutD) : ∀ (o : Option (List UInt8)) (x : PutD), stP o (xs ++ [x]) = stepP (stP o xs) (kindOf x.kd) x.n x.s x.l := by
  induction xs with
  | nil => intro o x; rfl
  | cons y r ih => intro o x; exact ih _ x

theorem PutOk.new {w w' : World} {B : Nat} {x : PutD} (h : PutOk w B x) (f : Fr (fun _ => False) w w') : PutOk w' B x :=
  ⟨h.n, h.s0, h.s1, h.rd.new f, h.nil, h.mc, h.cm, h.lt⟩
theorem cell_new {w w' : World} {p : Addr} {u : Value} (h : w.cell? p = some u) (f : Fr (fun _ => False) w w') : w'.cell? p = some u :=
  (f.cell (World.block_lt_of_cell? w _ h) id).trans h
theorem PutsAt.new {w w' : World} {B b off : Nat} {xs : List PutD} (h : PutsAt w B b off xs) (f : Fr (fun _ => False) w w') : PutsAt w' B b off xs := by
  intro i x hx
  obtain ⟨h1, h2, h3, h4, h5⟩ := h i x hx
  exact ⟨h1.new f, cell_new h2 f, cell_new h3 f, cell_new h4 f, cell_new h5 f⟩

/-- Where the law's loop stands. -/
structure PutsRel (w : World) (g : Nat) (xs : List PutD) (k : Nat) (V : Value) (wr : World) (v : Value) : Prop where
  hk : k ≤ xs.length
  hw : WrS wr g g v (stP (some []) (xs.take k))
  want : Sl wr V ((stP (some []) (xs.take k)).getD [])
  apart : ∀ A n c, V = .slice A n c → ∀ ad, A = some ad → ¬ WrF g v ad.block ∧ ad.block < wr.heap.size
  fr : Fr (fun _ => False) w wr
  len : ((stP (some []) (xs.take k)).getD []).length ≤ k * 3008
  hg : w.heap.size ≤ g

theorem rput_len {k : Int} {n : Nat} {s : Int} {l q : List UInt8} (h : rput k n s l = some q) : q.length ≤ l.length + 8 := by
  have hn : ∀ z, numOk n z = true → (be n z.toNat).length ≤ 8 := by
    intro z hz
    obtain ⟨j, rfl, hj⟩ := numOk_fits hz
    rw [Int.toNat_natCast, be_len]
    unfold fitsB at hj
    omega
  unfold rput at h
  split at h
  · split at h
    · injection h with h; subst h; have := hn s (by assumption); omega
    · cases h
  split at h
  · injection h with h; subst h; rw [be_len]; omega
  split at h
  · injection h with h; subst h; rw [be_len]; omega
  split at h
  · injection h with h; subst h; omega
  split at h
  · injection h with h; subst h; rw [List.length_append, be_len]; omega
  split at h
  · injection h with h; subst h; rw [be_len]; omega
  · cases h

/-- The next round's head. -/
theorem PutsRel.next {w wr wb w4 w5 : World} {g : Nat} {xs : List PutD} {k : Nat} {V v v4 Vz : Value} {x : PutD} {o' : Option (List UInt8)} (h : PutsRel w g xs k V wr v) (hlt : k < xs.length)
    (hts : xs.take (k + 1) = xs.take k ++ [x]) (ho : stepP (stP (some []) (xs.take k)) (kindOf x.kd) x.n x.s x.l = o') (hfb : Fr (fun _ => False) wr wb)
    (hs : Sl wb Vz (o'.getD [])) (hap : ∀ A n c, Vz = .slice A n c → ∀ ad, A = some ad → ¬ WrF g v ad.block ∧ ad.block < wb.heap.size)
    (hw4 : WrS w4 g g v4 o') (hf4 : Fr (WrF g v) wb w4) (hv4 : ∀ i, v4.ownBlock = some i → v.ownBlock = some i ∨ wb.heap.size ≤ i) (hf5 : Fr (fun _ => False) w4 w5) (hl : (o'.getD []).length ≤ (k + 1) * 3008) :
    PutsRel w g xs (k + 1) Vz w5 v4 ∧ stP (some []) (xs.take (k + 1)) = o' ∧ Sl w5 Vz (o'.getD []) := by
  have e : stP (some []) (xs.take (k + 1)) = o' := by rw [hts, stP_snoc, ho]
  have hsl : Sl w5 Vz (o'.getD []) := by
    obtain ⟨A, c, rfl, hA, hc, hr⟩ := hs
    exact ⟨A, c, rfl, hA, hc, (hr.keep hf4 (fun ad e => (hap A _ c rfl ad e).1)).new hf5⟩
  have hbase := h.hg
  have hf1 : Fr (fun _ => False) w w4 := (h.fr.trans hfb (fun _ _ => id)).trans hf4 (fun i hi hk => by
    rcases hk with rfl | hk
    · omega
    · have := (h.hw.own.lt i hk).1
      omega)
  refine ⟨⟨hlt, ?_, ?_, ?_, hf1.trans hf5 (fun _ _ => id), ?_, hbase⟩, e, hsl⟩
  · rw [e]
    exact hw4.keep hf5 (fun _ _ => id)
  · rw [e]
    exact hsl
  · intro A n c hV ad hA
    obtain ⟨h1, h2⟩ := hap A n c hV ad hA
    refine ⟨?_, Nat.lt_of_lt_of_le (Nat.lt_of_lt_of_le h2 hf4.size) hf5.size⟩
    rintro (hk | hk)
    · exact h1 (.inl hk)
    · rcases hv4 _ hk with q | q
      · exact h1 (.inr q)
      · omega
  · rw [e]
    exact hl

theorem infoWr : (Try.prog.info? 28).isSome = true := by kernel_rfl
theorem neq_self (g : Nat) (w : World) : (binOp .neq 25 (.pointer (some ⟨g, 0, none⟩)) (.pointer (some ⟨g, 0, none⟩))).run Try.prog w = .ok (.bool false) w := by
  obtain ⟨j, hj⟩ := Option.isSome_iff_exists.1 infoWr
  have h : ∀ d : Nat, (Op.equalIn (d + 1) 25 (.pointer (some ⟨g, 0, none⟩)) (.pointer (some ⟨g, 0, none⟩))).run Try.prog w = .ok true w := fun d => by
    simp [Op.equalIn, run_underlying Try.underlying25, sizeOf, typeInfo, hj, run_sameAddr_same]
  simp only [binOp]
  simp [Op.equal, Op.maxDepth, h 9999]

/-- What came in is none of the writer's. -/
theorem putF {w wr : World} {g : Nat} {xs : List PutD} {k : Nat} {V v : Value} {x : PutD} (h : PutsRel w g xs k V wr v) {wo : World} (hx : PutOk wo w.heap.size x) : 0 < x.m → ∀ ad, x.A = some ad → ¬ WrF g v ad.block := by
  intro hm ad hA hk
  have h1 := hx.lt hm ad hA
  have h2 := h.hg
  rcases hk with hk | hk
  · omega
  · have := (h.hw.own.lt _ hk).1
    omega
/-- What was just made is none of the writer's. -/
theorem own_apart {w wr w2 wb : World} {g : Nat} {xs : List PutD} {k : Nat} {V v Vz : Value} {z : List UInt8} (ho : wb.ownsRow w2.heap.size 5 1 Vz z.length (cellsB z)) (h : PutsRel w g xs k V wr v) (hf : Fr (fun _ => False) wr w2) :
    ∀ A n c, Vz = .slice A n c → ∀ ad, A = some ad → ¬ WrF g v ad.block ∧ ad.block < wb.heap.size := by
  rintro A n c rfl ad rfl
  have h1 := ho.lt ad.block rfl
  refine ⟨fun hk => ?_, h1.2⟩
  have := h.hw.lt hk
  have := hf.size
  omega

theorem len_some {w : World} {B g : Nat} {v : Value} {l : List UInt8} (h : WrS w B g v (some l)) :
    Calls Try.prog 16 #[.pointer (some ⟨g, 0, none⟩)] w fun e w' => e = .returned (.int .i64 (l.length : Nat)) ∧ w = w' := len_any h
theorem len_none {w : World} {B g : Nat} {v : Value} (h : WrS w B g v none) :
    Calls Try.prog 16 #[.pointer (some ⟨g, 0, none⟩)] w fun e w' => e = .returned (.int .i64 0) ∧ w = w' := len_any h

set_option maxHeartbeats 4000000 in
set_option maxRecDepth 100000 in
theorem puts_some {w : World} {b off : Nat} {xs : List PutD} {cap : Nat} (h : PutsAt w w.heap.size b off xs) (hl : xs.length ≤ maxLen) :
    Calls Try.prog 3 #[.slice (some ⟨b, off, none⟩) xs.length cap] w fun e w' => e = .returned (.bool true) ∧ Below w.heap.size w w' := by
  obtain ⟨i0, hi, hz0, hz1, hz2⟩ := info_parts infoU8
  have HF := Lib.hid (few_some h hl (cap := cap))
  unfold maxLen at hl
  cases hfew : fewB xs 60 with
  | false =>
    rw [hfew] at HF
    clear hl
    go_enter Try.func3, Try.ntmps3
    go_wp2_with fail
    (with_reducible refine HF.out.mono ?_)
    rintro e w1 ⟨rfl, rfl⟩
    go_wp2_with fail
    refine (known_any _).mono ?_
    rintro e w1 ⟨rfl, hf⟩
    go_wp2
    go_ret
    exact ⟨rfl, hf.below (Nat.le_refl _) (fun _ _ => id)⟩
  | true =>
    rw [hfew] at HF
    have hfb : (∀ x ∈ xs, x.m ≤ 3000) ∧ xs.length ≤ 60 := by
      unfold fewB at hfew
      rw [Bool.and_eq_true, List.all_eq_true, decide_eq_true_eq] at hfew
      exact ⟨fun x hx => by simpa using hfew.1 x hx, hfew.2⟩
    obtain ⟨hsh, h60⟩ := hfb
    have HSH := Lib.hid hsh
    have H := Lib.hid h
    have hnew := WrS.new w
    have hstart : PutsRel w w.heap.size xs 0 (.slice none 0 0) (w.alloc (.cells #[.slice none 0 0, .bool false] 28)) (.slice none 0 0) :=
      ⟨Nat.zero_le _, hnew, Sl.nil _, (fun A n c e ad h => by injection e with e1; subst e1; cases h), (Fr.refl _ _).alloc _, Nat.zero_le _, Nat.le_refl _⟩
    have HS := Lib.hid hstart
    clear hl hfew hsh hnew hstart h
    go_enter Try.func3, Try.ntmps3
    go_wp2_with fail
    (with_reducible refine HF.out.mono ?_)
    rintro e w1 ⟨rfl, rfl⟩
    go_wp2_with fail
    go_loopw [4, 5, 6] (fun V p i wr => ∃ (k : Nat) (v : Value), i = .int .i64 k ∧ p = .bool (stP (some []) (xs.take k)).isSome ∧ PutsRel w w.heap.size xs k V wr v) (fun _ _ i _ => xs.length - (intOf i).toNat)
    case atStart => exact ⟨0, _, rfl, rfl, HS.out⟩
    case round =>
      obtain ⟨k, v, rfl, rfl, hrel'⟩ := hrel
      have hk := hrel'.hk
      have HR := Lib.hid hrel'
      clear hrel'
      by_cases hlt : k < xs.length
      · obtain ⟨hok, h0, h1, h2, h3⟩ := (H.out.new HR.out.fr) k xs[k] (List.getElem?_eq_getElem hlt)
        have hts : xs.take (k + 1) = xs.take k ++ [xs[k]] := List.take_succ_eq_append_getElem hlt
        have HT := Lib.hid hts
        have HOK := Lib.hid (And.intro hok (HSH.out _ (List.getElem_mem hlt)))
        generalize xs[k] = x at *
        clear hts hok
        generalize hst : stP (some []) (xs.take k) = o at *
        have HST := Lib.hid hst
        clear hst
        have hi0 : (0 : Int) ≤ (k : Int) := Int.natCast_nonneg _
        have hi1 : (k : Int) < (xs.length : Int) := by omega
        go_wp2_with fail
        go_region_held3 (fun w' => w'.cell? ⟨b, off + k * 4, none⟩ = some (.int .i64 x.kd) ∧ w'.cell? ⟨b, off + k * 4 + 1, none⟩ = some (.int .u64 x.n) ∧
            w'.cell? ⟨b, off + k * 4 + 2, none⟩ = some (.int .i64 x.s) ∧ w'.cell? ⟨b, off + k * 4 + 3, none⟩ = some (.slice x.A x.m x.c))
          (first
            | go_keep
            | (go_split_ands
               refine ⟨?_, ?_, ?_, ?_⟩
               · exact cell_new (by assumption) hf2
               · exact cell_new (by assumption) hf2
               · exact cell_new (by assumption) hf2
               · exact cell_new (by assumption) hf2))
          ((first
            | (go_at_call 14; refine (kind_any _ _).mono ?_; rintro e w2 ⟨rfl, rfl⟩)
            | (go_at_call 13; refine (rput_any (w := wr.drew) (l := x.l) (by exact HOK.out.1.rd) HOK.out.1.nil HOK.out.1.mc HOK.out.2 _ (kindOf_in x.kd) x.n HOK.out.1.n x.s HOK.out.1.s1).mono ?_; rintro e w2 ⟨vb, rfl, hsl, hf2⟩)))
        clear hi0 hi1
        have hf3 : Fr (fun _ => False) wr w2 := ((Fr.refl _ wr).drew).trans hf2 (fun _ _ => id)
        have d0 := cell_new h0 hf3
        have d1 := cell_new h1 hf3
        have d2 := cell_new h2 hf3
        have d3 := cell_new h3 hf3
        have HD := Lib.hid (And.intro hsl hf3)
        clear h0 h1 h2 h3 hsl hf2 hf3
        generalize hr : rput (kindOf x.kd) x.n x.s x.l = r at *
        have HRP := Lib.hid hr
        clear hr
        have HLT := Lib.hid hlt
        have hlen := HR.out.len
        rw [HST.out] at hlen
        have hwant := HR.out.want
        rw [HST.out] at hwant
        have hwr := HR.out.hw
        rw [HST.out] at hwr
        cases o with
        | none =>
          obtain ⟨Aw, cw, hV, hAw, _, _⟩ := hwant
          simp only [Option.getD_none, List.length_nil] at hV hlen
          subst hV
          have hap0 := HR.out.apart Aw 0 cw rfl
          have HAP := Lib.hid (And.intro hap0 hAw)
          clear hap0 hAw
          cases r with
          | none =>
            obtain ⟨Ab, cb, hvb, _, _, _⟩ := HD.out.1
            subst hvb
            have hstep : stepP none (kindOf x.kd) x.n x.s x.l = none := by simp [stepP]
            have HSTEP := Lib.hid hstep
            have hP := lput_any (w := w2) (hwr.keep HD.out.2 (fun _ _ => id)) (HOK.out.1.rd.new HD.out.2) (c := x.c) HOK.out.2 (putF HR.out HOK.out.1) (by unfold roomS; simp only [Option.getD_none, List.length_nil]; omega) x.kd x.n HOK.out.1.n x.s HOK.out.1.s0 HOK.out.1.s1
            rw [hstep] at hP
            have HP := Lib.hid hP
            clear hP hstep hlen hwr
            go_wp2_with fail
            refine HP.out.mono ?_
            rintro e w4 ⟨rfl, v4, hw4, hf4, hv4⟩
            have hnext := HR.out.next (w4 := w4) (w5 := w4) (Vz := .slice none 0 0) (o' := none) HLT.out HT.out (by rw [HST.out]; exact HSTEP.out) HD.out.2 (Sl.nil _) (fun A n c e ad h => by injection e with e1; subst e1; cases h) hw4 hf4 hv4 (Fr.refl _ _) (Nat.zero_le _)
            have HW4 := Lib.hid hw4
            have HN := Lib.hid hnext
            clear hw4 hf4 hv4 hnext d0 d1 d2 d3
            have hneq := neq_self w.heap.size
            go_wp2_with fail
            refine (len_none HW4.out).mono ?_
            rintro e w4' ⟨rfl, rfl⟩
            go_wp2_with fail
            refine (end_failed HW4.out).mono ?_
            rintro e w5 ⟨rfl, rfl⟩
            have hcv5 := conv_string (P := Try.prog) 26 9 5 (c := 0) (Rd.nil w4 none) Try.underlying26 Try.underlying5 Try.underlying9
            go_wp2_with fail
            exact ⟨⟨k + 1, v4, by go_num, by rw [HN.out.2.1]; rfl, HN.out.1⟩, by simp [intOf]; omega⟩
          | some q =>
            obtain ⟨Ab, cb, hvb, _, _, _⟩ := HD.out.1
            subst hvb
            have hstep : stepP none (kindOf x.kd) x.n x.s x.l = none := by simp [stepP]
            have HSTEP := Lib.hid hstep
            have hP := lput_any (w := w2) (hwr.keep HD.out.2 (fun _ _ => id)) (HOK.out.1.rd.new HD.out.2) (c := x.c) HOK.out.2 (putF HR.out HOK.out.1) (by unfold roomS; simp only [Option.getD_none, List.length_nil]; omega) x.kd x.n HOK.out.1.n x.s HOK.out.1.s0 HOK.out.1.s1
            rw [hstep] at hP
            have HP := Lib.hid hP
            clear hP hstep hlen hwr
            go_wp2_with fail
            refine HP.out.mono ?_
            rintro e w4 ⟨rfl, v4, hw4, hf4, hv4⟩
            have hnext := HR.out.next (w4 := w4) (w5 := w4) (Vz := .slice Aw 0 cw) (o' := none) HLT.out HT.out (by rw [HST.out]; exact HSTEP.out) HD.out.2 (⟨Aw, cw, rfl, HAP.out.2, Nat.zero_le _, Rd.nil _ _⟩) (fun A n c e ad h => by injection e with e1 _ _; subst e1; exact ⟨(HAP.out.1 ad h).1, Nat.lt_of_lt_of_le (HAP.out.1 ad h).2 HD.out.2.size⟩) hw4 hf4 hv4 (Fr.refl _ _) (Nat.zero_le _)
            have HW4 := Lib.hid hw4
            have HN := Lib.hid hnext
            clear hw4 hf4 hv4 hnext d0 d1 d2 d3
            have hneq := neq_self w.heap.size
            go_wp2_with fail
            refine (len_none HW4.out).mono ?_
            rintro e w4' ⟨rfl, rfl⟩
            go_wp2_with fail
            refine (end_failed HW4.out).mono ?_
            rintro e w5 ⟨rfl, rfl⟩
            have hcv5 := conv_string (P := Try.prog) 26 9 5 (c := 0) (Rd.nil w4 none) Try.underlying26 Try.underlying5 Try.underlying9
            have hcv6 := conv_string (P := Try.prog) 26 9 5 (c := cw) (Rd.nil w4 Aw) Try.underlying26 Try.underlying5 Try.underlying9
            go_wp2_with fail
            exact ⟨⟨k + 1, v4, by go_num, by rw [HN.out.2.1]; rfl, HN.out.1⟩, by simp [intOf]; omega⟩
        | some p =>
          cases r with
          | none =>
            obtain ⟨Ab, cb, hvb, _, _, _⟩ := HD.out.1
            simp only [Option.getD_some] at hlen
            subst hvb
            clear hwant
            have hstep : stepP (some p) (kindOf x.kd) x.n x.s x.l = none := by simp [stepP, HRP.out]
            have HSTEP := Lib.hid hstep
            have hP := lput_any (w := w2) (hwr.keep HD.out.2 (fun _ _ => id)) (HOK.out.1.rd.new HD.out.2) (c := x.c) HOK.out.2 (putF HR.out HOK.out.1) (by unfold roomS; simp only [Option.getD_some]; omega) x.kd x.n HOK.out.1.n x.s HOK.out.1.s0 HOK.out.1.s1
            rw [hstep] at hP
            have HP := Lib.hid hP
            clear hP hstep hlen hwr
            go_wp2_with fail
            refine HP.out.mono ?_
            rintro e w4 ⟨rfl, v4, hw4, hf4, hv4⟩
            have hnext := HR.out.next (w4 := w4) (w5 := w4) (Vz := .slice none 0 0) (o' := none) HLT.out HT.out (by rw [HST.out]; exact HSTEP.out) HD.out.2 (Sl.nil _) (fun A n c e ad h => by injection e with e1; subst e1; cases h) hw4 hf4 hv4 (Fr.refl _ _) (Nat.zero_le _)
            have HW4 := Lib.hid hw4
            have HN := Lib.hid hnext
            clear hw4 hf4 hv4 hnext d0 d1 d2 d3
            have hneq := neq_self w.heap.size
            go_wp2_with fail
            refine (len_none HW4.out).mono ?_
            rintro e w4' ⟨rfl, rfl⟩
            go_wp2_with fail
            refine (end_failed HW4.out).mono ?_
            rintro e w5 ⟨rfl, rfl⟩
            have hcv5 := conv_string (P := Try.prog) 26 9 5 (c := 0) (Rd.nil w4 none) Try.underlying26 Try.underlying5 Try.underlying9
            go_wp2_with fail
            exact ⟨⟨k + 1, v4, by go_num, by rw [HN.out.2.1]; rfl, HN.out.1⟩, by simp [intOf]; omega⟩
          | some q =>
            simp only [Option.getD_some] at hlen hwant
            obtain ⟨Aw, cw, hV, _, _, hrw⟩ := hwant
            obtain ⟨Ab, cb, hvb, _, _, hrb⟩ := HD.out.1
            simp only [Option.getD_some] at hvb hrb
            subst hV hvb
            have hq := rput_len HRP.out
            have hx3 := HOK.out.2
            have hxl := HOK.out.1.rd.len
            have HL : Hid (p.length + q.length ≤ (k + 1) * 3008 ∧ p.length ≤ 200000 ∧ q.length ≤ 3008) := Lib.hid (by omega)
            have HRW := Lib.hid (And.intro hrw (And.intro hrb hwr))
            clear hrw hrb hwr hlen hq hx3 hxl
            go_wp2_with (first
              | (at_builtin; refine wpList_append_bytes _ rfl (.const (.slice none 0 0)) (.tmp 51) 26 rfl w2.heap.size 5 i0 (.int .u8 0) Try.underlying26 hi hz0 hz1 hz2 rfl (.slice none 0 0) [] p rfl (World.ownsRow_nil _ _ _ _) Aw p.length cw rfl (HRW.out.1.new HD.out.2) (by have := HL.out; simp; omega) (Nat.le_refl _) ?_; intro va wa howna hgrowa hata; have hfa : Fr (fun _ => False) w2 wa := (Fr.refl _ _).grown hgrowa (fun i hi => by cases hi); have HA := Lib.hid (And.intro howna hfa); clear howna hgrowa hata hfa)
              | (at_builtin; refine wpList_append_bytes _ rfl (.tmp 52) (.tmp 53) 26 rfl w2.heap.size 5 i0 (.int .u8 0) Try.underlying26 hi hz0 hz1 hz2 rfl va ([] ++ p) q rfl HA.out.1 Ab q.length cb rfl (HRW.out.2.1.new HA.out.2) (by have := HL.out; simp; omega) HA.out.2.size ?_; intro vz wb hownb hgrowb hatb; have hfb : Fr (fun _ => False) w2 wb := HA.out.2.grown hgrowb (fun i hi => .inr (HA.out.1.lt i hi).1); have HB := Lib.hid (And.intro hownb hfb); have hz0' : ([] ++ p ++ q : List UInt8) = p ++ q := rfl; rw [hz0'] at HB hownb; obtain ⟨z, hz⟩ : ∃ z, z = p ++ q := ⟨_, rfl⟩; rw [← hz] at HB hownb; have HZ := Lib.hid hz; clear hz hz0'; obtain ⟨Az, cz, hvz, _, _, _, _⟩ := own_rd hownb; have g0 := cell_new d0 hfb; have g1 := cell_new d1 hfb; have g2 := cell_new d2 hfb; have g3 := cell_new d3 hfb; subst hvz; clear hownb hgrowb hatb hfb d0 d1 d2 d3))
            have hstep : stepP (some p) (kindOf x.kd) x.n x.s x.l = some z := by rw [HZ.out]; simp [stepP, HRP.out]
            have HSTEP := Lib.hid hstep
            have hP := lput_any (w := wb) (HRW.out.2.2.keep (HD.out.2.trans HB.out.2 (fun _ _ => id)) (fun _ _ => id)) ((HOK.out.1.rd.new HD.out.2).new HB.out.2) (c := x.c) HOK.out.2 (putF HR.out HOK.out.1) (by unfold roomS; simp only [Option.getD_some]; have := HL.out; omega) x.kd x.n HOK.out.1.n x.s HOK.out.1.s0 HOK.out.1.s1
            rw [hstep] at hP
            have HP := Lib.hid hP
            clear hP hstep
            refine HP.out.mono ?_
            rintro e w4 ⟨rfl, v4, hw4, hf4, hv4⟩
            have HW4 := Lib.hid (And.intro hw4 (And.intro hf4 hv4))
            clear hw4 hf4 hv4 g0 g1 g2 g3
            have hneq := neq_self w.heap.size
            go_wp2_with fail
            refine (len_some HW4.out.1).mono ?_
            rintro e w4' ⟨rfl, rfl⟩
            go_wp2_with fail
            refine (end_any HW4.out.1 (by have := HL.out; rw [HZ.out, List.length_append]; omega)).mono ?_
            rintro e w5 ⟨x5, rfl, hm5⟩
            have hnext := HR.out.next (w4 := w4) (w5 := w5) (Vz := .slice Az z.length cz) (o' := some z) HLT.out HT.out (by rw [HST.out]; exact HSTEP.out) (HD.out.2.trans HB.out.2 (fun _ _ => id)) (Sl.of_own HB.out.1) (own_apart HB.out.1 HR.out HD.out.2) HW4.out.1 HW4.out.2.1 HW4.out.2.2 hm5.2 (by simp only [Option.getD_some]; have := HL.out; rw [HZ.out, List.length_append]; omega)
            obtain ⟨A5, c5, hx5, _, _, _, hr5⟩ := own_rd hm5.1
            subst hx5
            obtain ⟨A6, c6, h6, _, _, hr6⟩ := hnext.2.2
            simp only [Option.getD_some] at h6 hr6
            injection h6 with h6a _ h6c
            subst h6a h6c
            have hcv5 := conv_string (P := Try.prog) 26 9 5 (c := c5) hr5 Try.underlying26 Try.underlying5 Try.underlying9
            have hcv6 := conv_string (P := Try.prog) 26 9 5 (c := cz) hr6 Try.underlying26 Try.underlying5 Try.underlying9
            have HN := Lib.hid hnext
            clear hm5 hnext hr5 hr6
            go_wp2_with fail
            exact ⟨⟨k + 1, v4, by go_num, by rw [HN.out.2.1]; rfl, HN.out.1⟩, by simp [intOf]; omega⟩
      · obtain rfl : k = xs.length := by omega
        have HF2 := Lib.hid HR.out.fr
        clear hlt
        go_wp2_with fail
        refine (known_any _).mono ?_
        rintro e w5 ⟨rfl, f5⟩
        go_wp2
        go_ret
        exact ⟨rfl, (HF2.out.trans f5 (fun _ _ => id)).below (Nat.le_refl _) (fun _ _ => id)⟩

theorem puts_nil (A : Option Addr) (cap : Nat) (w : World) :
    Calls Try.prog 3 #[.slice A 0 cap] w fun e w' => e = .returned (.bool true) ∧ Below w.heap.size w w' := by
  go_enter Try.func3, Try.ntmps3
  go_wp2_with fail
  refine (few_nil _ _ _).mono ?_
  rintro e w1 ⟨rfl, rfl⟩
  go_wp2_with fail
  go_loopw [4, 5, 6] (fun _ _ i wr => i = .int .i64 0 ∧ Fr (fun _ => False) w wr) (fun _ _ _ _ => 0)
  case atStart => exact ⟨rfl, (Fr.refl _ _).alloc _⟩
  case round =>
    obtain ⟨rfl, hf⟩ := hrel
    have HF2 := Lib.hid hf
    clear hf
    go_wp2_with fail
    refine (known_any _).mono ?_
    rintro e w5 ⟨rfl, f5⟩
    go_wp2
    go_ret
    exact ⟨rfl, (HF2.out.trans f5 (fun _ _ => id)).below (Nat.le_refl _) (fun _ _ => id)⟩
end Go.Proofs.Ythmjfbefekicdaa
