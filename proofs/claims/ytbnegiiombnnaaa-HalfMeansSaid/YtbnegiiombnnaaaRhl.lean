/- couponref02: Halves. -/
import Derived.Test.YtbnegiiombnnaaaLst
namespace Go.Proofs.Ytbnegiiombnnaaa
open Go.RowKit

/-- A row's halves, one by one. -/
def halfL (c n m : Nat) (b : List UInt8) (i : Nat) : List UInt8 := tagB ⟨c, n, i, m⟩ (((padB b).drop (48 * i)).take 48)
def halvesL (c n : Nat) (b : List UInt8) : List (List UInt8) := (List.range (many b.length)).map (halfL c n (many b.length) b)
theorem halfL_len {c n m i : Nat} {b : List UInt8} (h : i < many b.length) : (halfL c n m b i).length = 64 := by
  have hp := padB_len b
  unfold halfL
  exact tagB_len _ (by rw [List.length_take, List.length_drop]; omega)
theorem halvesL_len (c n : Nat) (b : List UInt8) : (halvesL c n b).length = many b.length := by simp [halvesL]
theorem halvesL_at {c n i : Nat} {b : List UInt8} (h : i < many b.length) : (halvesL c n b)[i]? = some (halfL c n (many b.length) b i) := by simp [halvesL, h]
theorem halvesL_take {c n k : Nat} {b : List UInt8} (h : k < many b.length) : (halvesL c n b).take (k + 1) = (halvesL c n b).take k ++ [halfL c n (many b.length) b k] := by
  rw [List.take_add_one, halvesL_at h]
  rfl
theorem full_take {ls : List (List UInt8)} (h : Full ls) (k : Nat) : Full (ls.take k) := fun l hl => h l (List.mem_of_mem_take hl)
theorem halvesL_full (c n : Nat) (b : List UInt8) : Full (halvesL c n b) := fun l hl => by
  obtain ⟨i, hi, rfl⟩ := List.mem_map.1 hl
  rw [halfL_len (List.mem_range.1 hi)]
  omega
/-- How long a row's bytes are, with noughts behind. -/
def padK (b : List UInt8) (k : Nat) : List UInt8 := be b.length 4 ++ (b ++ nought k)
theorem padK_len (b : List UInt8) (k : Nat) : (padK b k).length = 4 + b.length + k := by
  simp [padK, be_len, nought_len]; omega
theorem padK_snoc (b : List UInt8) (k : Nat) : padK b k ++ [0] = padK b (k + 1) := by
  have : nought (k + 1) = nought k ++ [0] := by simp [nought, List.replicate_succ']
  simp [padK, this]
theorem padK_all (b : List UInt8) {k : Nat} (h : 4 + b.length + k = 48 * many b.length) : padK b k = padB b := by
  unfold padK padB
  have : k = many b.length * 48 - 4 - b.length := by omega
  rw [this]
def lenV : Value → Nat
  | .slice _ n _ => n
  | _ => 0

set_option maxRecDepth 100000 in
set_option maxHeartbeats 4000000 in
theorem rhalves_any {w : World} {A : Option Addr} {k cb : Nat} {b : List UInt8} (hr : Rd w A k b) (hk : k ≤ 32768) (c n : Nat) (hc : c ≤ 18446744073709551615) (hn : n ≤ 9223372036854775807) :
    Calls Try.prog 22 #[.agg #[.int .u64 c, .int .i64 n], .slice A k cb] w fun e w' => ∃ v, e = .returned v ∧ Lst w' w.heap.size v (halvesL c n b) ∧ Fr (fun _ => False) w w' := by
  have hmk : 48 * many k < k + 52 ∧ k + 4 ≤ 48 * many k := by unfold many; omega
  have HMn := Lib.hid fun w => rmany_any w k (by omega)
  have hl := hr.len
  subst hl
  have HL := Lib.hid (fun k => @padK_all b k)
  have HTK := Lib.hid (fun k => @halvesL_take c n k b)
  have HHL := Lib.hid (fun m i => @halfL_len c n m i b)
  have HFU := Lib.hid (halvesL_full c n b)
  have HLN := Lib.hid (halvesL_len c n b)
  have HT0 : Hid (Blk (w.alloc (.cells #[.int .u64 (c : Nat), .int .i64 (n : Nat)] 24)) w.heap.size 24 #[.int .u64 (c : Nat), .int .i64 (n : Nat)]) := Lib.hid (Blk.new _ _ _)
  have HF0 : Hid (Fr (fun _ => False) w (w.alloc (.cells #[.int .u64 (c : Nat), .int .i64 (n : Nat)] 24))) := Lib.hid ((Fr.refl _ w).alloc _)
  have HS0 : Hid ((w.alloc (.cells #[.int .u64 (c : Nat), .int .i64 (n : Nat)] 24)).heap.size = w.heap.size + 1) := Lib.hid (by simp)
  have HR := Lib.hid hr
  clear hr
  obtain ⟨m, hm⟩ : ∃ m, m = many b.length := ⟨_, rfl⟩
  rw [← hm] at hmk
  simp only [← hm] at HMn HL HTK HLN
  have HM := Lib.hid hm
  clear hm
  have HC := Lib.hid (And.intro hc hn)
  clear hc hn
  go_enter Try.func22, Try.ntmps22
  go_wp2_with fail
  refine (rput_any _ b.length 4 (by omega) (by omega)).mono ?_
  rintro e w1 ⟨R1, rfl, hR1, hb1, hf1⟩
  have H1 := Lib.hid (And.intro hR1 (And.intro hb1 hf1))
  clear hR1 hb1 hf1
  have ho1 := own_of_blk (n := 4) (size := 1) (base := w.heap.size + 1) H1.out.2.1 (by have := H1.out.1; have := HS0.out; omega) (by rw [cellsB_len, be_len]) (by simp [maxLen])
  have HO1 := Lib.hid ho1
  clear ho1
  go_wp2_with (refine wpList_more rfl _ _ rfl (w.heap.size + 1) _ (be b.length 4) b rfl (by rw [be_len]; exact HO1.out) A b.length cb rfl ((HR.out.keep HF0.out (fun _ _ q => q)).keep H1.out.2.2 (fun _ _ q => q)) (by rw [be_len]; omega) (by have := H1.out.2.2.size; have := HS0.out; omega) ?_; intro v2 w2 ho2 hg2 hat2; have H2 := Lib.hid (And.intro ho2 (And.intro hg2 hat2)); clear ho2 hg2 hat2)
  (with_reducible refine (HMn.out _).mono ?_)
  rintro e w3 ⟨rfl, rfl⟩
  have hwf : Fr (fun _ => False) w w2 := (HF0.out.trans H1.out.2.2 (fun _ _ q => q)).grown H2.out.2.1 (fun j hj => .inr (by have := (HO1.out.lt j hj).1; omega))
  have hT2 : Blk w2 w.heap.size 24 #[.int .u64 (c : Nat), .int .i64 (n : Nat)] := HT0.out.keep (H1.out.2.2.grown H2.out.2.1 (fun j hj => .inr (by have := (HO1.out.lt j hj).1; have := HS0.out; omega))) (fun q => q)
  have hA0 : w2.ownsRow (w.heap.size + 1) 5 1 v2 (padK b 0).length (cellsB (padK b 0)) := by
    have e : be b.length 4 ++ b = padK b 0 := by simp [padK, nought]
    rw [← e]
    exact H2.out.1
  obtain ⟨A2, c2, rfl, hc2, hc3⟩ := own_slice hA0
  have H3 := Lib.hid (And.intro hwf (And.intro hT2 hA0))
  clear hwf hT2 hA0 hc2 hc3
  have hpl : (padK b 0).length = b.length + 4 := by rw [padK_len]; omega
  rw [hpl]
  have HPL := Lib.hid hpl
  clear hpl H2 H1 HO1
  go_wp2_with fail
  go_loopw [5] (fun x wr => ∃ (q : Nat) (A' : Option Addr) (c' : Nat), x = .slice A' (4 + b.length + q) c' ∧ 4 + b.length + q ≤ 48 * m ∧ Hid (wr.ownsRow (w.heap.size + 1) 5 1 (.slice A' (4 + b.length + q) c') (padK b q).length (cellsB (padK b q))) ∧ Hid (Fr (fun _ => False) w wr) ∧ Hid (Blk wr w.heap.size 24 #[.int .u64 (c : Nat), .int .i64 (n : Nat)])) (fun x _ => 48 * m - lenV x)
  case atStart => exact ⟨0, A2, c2, by rw [show b.length + 4 = 4 + b.length + 0 from by omega], by omega, Lib.hid (by
    have h := H3.out.2.2
    rw [HPL.out] at h
    rw [show 4 + b.length + 0 = b.length + 4 from by omega, HPL.out]
    exact h), Lib.hid H3.out.1, Lib.hid H3.out.2.1⟩
  case round =>
    obtain ⟨q, A', c', rfl, hq, HO, HF, HT⟩ := hrel
    by_cases hlt : 4 + b.length + q < 48 * m
    · have HQ := Lib.hid hlt
      have h48 : (((4 + b.length + q : Nat)) : Int) < 48 * (m : Int) := by omega
      have hd : decide (((4 + b.length + q : Nat) : Int) < 48 * (m : Int)) = true := by simpa using h48
      have HON := Lib.hid (World.ownsRow.alloc HO.out (.cells #[.int .u8 0] 5))
      have HR1 := Lib.hid (one_byte wr 5 0)
      have hbs : Hid (w.heap.size + 1 ≤ (wr.alloc (.cells #[.int .u8 0] 5)).heap.size) := Lib.hid (by have := HT.out.lt; simp; omega)
      have hpk : Hid ((padK b q).length = 4 + b.length + q) := Lib.hid (padK_len b q)
      have hps : Hid (padK b q ++ [0] = padK b (q + 1)) := Lib.hid (padK_snoc b q)
      clear hlt hq
      generalize hNq : 4 + b.length + q = Nq at *
      have HNq := Lib.hid hNq
      clear hNq
      go_wp2_with (refine wpList_more rfl _ _ rfl (w.heap.size + 1) _ (padK b q) [0] rfl HON.out _ 1 1 rfl HR1.out (by rw [hpk.out]; have := HQ.out; omega) hbs.out ?_; intro v3 w3 ho3 hg3 hat3; have H4 := Lib.hid (And.intro ho3 (And.intro hg3 hat3)); clear ho3 hg3 hat3)
      have ho := H4.out.1
      rw [hps.out] at ho
      obtain ⟨A3, c3, rfl, _, _⟩ := own_slice ho
      have e : (padK b (q + 1)).length = 4 + b.length + (q + 1) := padK_len b (q + 1)
      rw [e] at ho ⊢
      have fr : Fr (fun j => w.heap.size + 1 ≤ j) wr w3 := ((Fr.refl _ wr).alloc _).grown H4.out.2.1 (fun j hj => .inl (HON.out.lt j hj).1)
      refine ⟨⟨q + 1, A3, c3, congrArg (fun z => Value.slice A3 z c3) (by have := HNq.out; first | omega | simp), ?_, Lib.hid (by rw [e]; exact ho), Lib.hid (HF.out.trans fr (fun j hj hq => by omega)), Lib.hid (HT.out.keep fr (by omega))⟩, ?_⟩
      · have := HQ.out; have := HNq.out; omega
      · have := HQ.out; have := HNq.out; simp [lenV]; omega
    · have he : 4 + b.length + q = 48 * m := by omega
      have hpa := HL.out q he
      rw [hpa, he] at HO
      have hpl2 : (padB b).length = 48 * m := by rw [← hpa, padK_len, he]
      rw [hpl2] at HO
      rw [he]
      have HPB := Lib.hid hpl2
      clear hlt hq he hpa hpl2 HPL H3
      generalize wr = w3 at *
      go_wp2_with fail
      have HCC := Lib.hid (own_le HO.out)
      have hmm : m ≤ 1000 ∧ 1 ≤ m := by omega
      go_loopw [7, 8, 9] (fun o i _ wr => ∃ (j : Nat) (v : Value), v = o ∧ i = .int .i64 j ∧ j ≤ m ∧ Hid (Lst wr (w.heap.size + 1) v ((halvesL c n b).take j)) ∧ Hid (wr.ownsRow (w.heap.size + 1) 5 1 (.slice A' (48 * m) c') (48 * m) (cellsB (padB b))) ∧ Hid (Fr (fun _ => False) w wr) ∧ Hid (Blk wr w.heap.size 24 #[.int .u64 (c : Nat), .int .i64 (n : Nat)])) (fun _ i _ _ => m - (intOf i).toNat)
      case atStart => exact ⟨0, _, rfl, rfl, Nat.zero_le _, Lib.hid (Lst.nil _ _), HO, HF, HT⟩
      case round =>
        clear HO HF HT
        obtain ⟨j, v, rfl, rfl, hj, HV, HO, HF, HT⟩ := hrel
        by_cases hlt : j < m
        · have h0 := HT.out.cell 0
          have h1 := HT.out.cell 1
          simp at h0 h1
          have HSZ : Hid (w.heap.size + 1 ≤ wr.heap.size) := Lib.hid (by have := HT.out.lt; omega)
          clear hj hmk
          have hwn : IntKind.u64.wrap (n : Int) = (n : Int) := by have := HC.out.2; simp [IntKind.wrap, IntKind.signed, IntKind.bits]; omega
          go_wp2_with fail
          go_region_held3 (fun w' => w'.cell? ⟨w.heap.size, 0, none⟩ = some (.int .u64 (c : Nat)) ∧ w'.cell? ⟨w.heap.size, 1, none⟩ = some (.int .i64 (n : Nat)))
            (first
              | (exact ⟨cell_new h0 hff, cell_new h1 hff⟩)
              | (exact ⟨cell_new (w := wr) h0 ((((Fr.refl (fun _ => False) wr).drew).trans hnf (fun _ _ q => q)).trans hcf (fun _ _ q => q)), cell_new (w := wr) h1 ((((Fr.refl (fun _ => False) wr).drew).trans hnf (fun _ _ q => q)).trans hcf (fun _ _ q => q))⟩)
              | (exact ⟨cell_new (w := wr) h0 ((((Fr.refl (fun _ => False) wr).drew).trans hcf (fun _ _ q => q)).trans hnf (fun _ _ q => q)), cell_new (w := wr) h1 ((((Fr.refl (fun _ => False) wr).drew).trans hcf (fun _ _ q => q)).trans hnf (fun _ _ q => q))⟩)
              | (exact ⟨cell_new (w := wr) h0 (((Fr.refl (fun _ => False) wr).drew).trans hcf (fun _ _ q => q)), cell_new (w := wr) h1 (((Fr.refl (fun _ => False) wr).drew).trans hcf (fun _ _ q => q))⟩)
              | (exact ⟨cell_new (w := wr) h0 (((Fr.refl (fun _ => False) wr).drew).trans hnf (fun _ _ q => q)), cell_new (w := wr) h1 (((Fr.refl (fun _ => False) wr).drew).trans hnf (fun _ _ q => q))⟩)
              | go_keep)
            ((first
              | (refine step_append_bytes rfl (.tmp 34) (.tmp 38) rfl wr.heap.size (.slice (some ⟨Rc, 0, none⟩) 8 8) (be c 8) (be n 4) (by rfl) (bytes_own (by first | exact hcb | exact hcb.keep hnf (fun q => q)) (by first | exact hcR | exact Nat.le_trans hnf.size hcR) (be_len _ _) (by simp [maxLen])) (some ⟨Rn, 0, none⟩) 4 4 (by rfl) (bytes_rd (by first | exact hnb | exact hnb.keep hcf (fun q => q)) (be_len _ _) (by omega)) (by rw [be_len]; omega) (by first | exact Nat.le_trans hcf.size hnf.size | exact Nat.le_trans hnf.size hcf.size) ?_; intro vh wh hho hhg hha; have hff : Fr (fun _ => False) wr wh := (by
                  have hRc : wr.heap.size ≤ Rc := by first | exact hcR | exact Nat.le_trans hnf.size hcR
                  first
                    | exact ((((Fr.refl (fun _ => False) wr).drew).trans hcf (fun _ _ q => q)).trans hnf (fun _ _ q => q)).grown hhg (fun j hj => .inr (by simp [Value.ownBlock] at hj; omega))
                    | exact ((((Fr.refl (fun _ => False) wr).drew).trans hnf (fun _ _ q => q)).trans hcf (fun _ _ q => q)).grown hhg (fun j hj => .inr (by simp [Value.ownBlock] at hj; omega))); clear hcf hnf hcb hnb hcR hnR hhg hha)
              | (go_at_call_of 34 (Value.int IntKind.u64 (c : Nat)); refine (rput_any _ c 8 (by have := HC.out; omega) (by omega)).mono ?_; rintro e wc ⟨Rc, rfl, hcR, hcb, hcf⟩)
              | (go_at_call_of 34 (Value.int IntKind.u64 (n : Nat)); refine (rput_any _ n 4 (by have := HC.out; omega) (by omega)).mono ?_; rintro e wn ⟨Rn, rfl, hnR, hnb, hnf⟩)))
          all_goals
            have HH := Lib.hid (And.intro hho hff)
            clear hho hff h0 h1
            have hj9 : j ≤ 1000 := by omega
            have HLT := Lib.hid hlt
            clear hlt
            go_wp2_with fail
            refine (rput_any _ j 2 (by omega) (by omega)).mono ?_
            rintro e w4 ⟨R4, rfl, hR4, hb4, hf4⟩
            have H4 := Lib.hid (And.intro hR4 (And.intro hb4 hf4))
            clear hR4 hb4 hf4
            go_wp2_with (refine wpList_more rfl (.tmp 40) (.tmp 43) rfl wr.heap.size vh (be c 8 ++ be n 4) (be j 2) rfl (own_keep HH.out.1 H4.out.2.2 (fun _ _ q => q)) (some ⟨R4, 0, none⟩) 2 2 rfl (bytes_rd H4.out.2.1 (be_len _ _) (by omega)) (by simp [be_len]) (Nat.le_trans HH.out.2.size H4.out.2.2.size) ?_; intro v5 w5 ho5 hg5 hat5; have H5 := Lib.hid (And.intro ho5 ((HH.out.2.trans H4.out.2.2 (fun _ _ q => q)).grown hg5 (fun k hk => .inr (HH.out.1.lt k hk).1))); clear ho5 hg5 hat5)
            refine (rput_any _ m 2 (by omega) (by omega)).mono ?_
            rintro e w6 ⟨R6, rfl, hR6, hb6, hf6⟩
            have H6 := Lib.hid (And.intro hR6 (And.intro hb6 hf6))
            clear hR6 hb6 hf6
            have hHL : (((be c 8 ++ be n 4) ++ be j 2) ++ be m 2) ++ (((padB b).drop (48 * j)).take 48) = halfL c n m b j := by simp [halfL, tagB]
            have hH64 : (halfL c n m b j).length = 64 := HHL.out m j (by rw [← HM.out]; exact HLT.out)
            have hrdA := Rd.of_own HO.out
            obtain ⟨ad, hAd, hsl, hrdP⟩ := slice_part (c := c') hrdA HCC.out.1 (48 * j) (48 * j + 48) (by omega) (by have := HLT.out; omega)
            have e48 : 48 * j + 48 - 48 * j = 48 := by omega
            have ej1 : ((48 * j : Nat) : Int) = 48 * (j : Int) := by omega
            have ej2 : ((48 * j + 48 : Nat) : Int) = 48 * (j : Int) + 48 := by omega
            rw [e48, ej1, ej2] at hsl
            rw [e48] at hrdP
            have HLL := Lib.hid (And.intro hHL (And.intro hH64 (And.intro hAd hrdP)))
            clear hHL hH64 hrdA hAd hrdP e48 ej1 ej2
            have hLen : Hid (((((be c 8 ++ be n 4) ++ be j 2) ++ be m 2)).length = 16) := Lib.hid (by simp [be_len])
            go_wp2_with (first
              | (refine wpList_more rfl (.tmp 44) (.tmp 47) rfl wr.heap.size v5 ((be c 8 ++ be n 4) ++ be j 2) (be m 2) rfl (own_keep H5.out.1 H6.out.2.2 (fun _ _ q => q)) (some ⟨R6, 0, none⟩) 2 2 rfl (bytes_rd H6.out.2.1 (be_len _ _) (by omega)) (by simp [be_len]) (Nat.le_trans H5.out.2.size H6.out.2.2.size) ?_; intro v7 w7 ho7 hg7 hat7; have H7 := Lib.hid (And.intro ho7 ((H5.out.2.trans H6.out.2.2 (fun _ _ q => q)).grown hg7 (fun k hk => .inr (H5.out.1.lt k hk).1))); clear ho7 hg7 hat7)
              | (refine wpList_more rfl (.tmp 50) (.tmp 57) rfl wr.heap.size v7 (((be c 8 ++ be n 4) ++ be j 2) ++ be m 2) (((padB b).drop (48 * j)).take 48) rfl H7.out.1 (some (ad.add (48 * j))) 48 (c' - 48 * j) rfl (HLL.out.2.2.2.keep H7.out.2 (fun _ _ q => q)) (by rw [hLen.out]; omega) H7.out.2.size ?_; intro v8 w8 ho8 hg8 hat8; rw [HLL.out.1] at ho8; obtain ⟨A8, c8, hv8, hc8, hc9⟩ := own_slice ho8; rw [HLL.out.2.1] at hv8 hc8; subst hv8; have H8 := Lib.hid (And.intro ho8 (And.intro (H7.out.2.grown hg8 (fun k hk => .inr (H7.out.1.lt k hk).1)) hc8)); clear ho8 hg8 hat8 hc8 hc9)
              | (refine wpList_append_lst rfl (.tmp 49) (.tmp 59) rfl (base := w.heap.size + 1) (v := v) (ls := (halvesL c n b).take j) (ms := [halfL c n m b j]) (us := [.slice A8 64 c8]) (HV.out.new (H8.out.2.1.alloc _)) (B := w8.heap.size) (m := 1) (Blk.new w8 _ _) (Els.one HLL.out.2.1 H8.out.2.2 ((bytes_rd2 H8.out.1 HLL.out.2.1).keep (F := fun _ => False) ((Fr.refl _ w8).alloc _) (fun _ _ q => q)) (own_none H8.out.1) (fun ad e => ⟨by have := (H8.out.1.lt ad.block (by rw [e]; rfl)).1; have := HSZ.out; omega, fun q => by have := (H8.out.1.lt ad.block (by rw [e]; rfl)).1; have := (HV.out.lt ad.block q).2; omega⟩)) rfl 1 rfl rfl (full_take HFU.out j) (fun l hl => by rw [List.mem_singleton.1 hl, HLL.out.2.1]; omega) (by rw [List.length_take]; omega) (by have := H8.out.2.1.size; have := HSZ.out; simp; omega) ?_; intro v9 w9 hl9 hg9 hat9; have H9 := Lib.hid (And.intro hl9 hg9); clear hl9 hg9 hat9))
            refine ⟨⟨j + 1, v9, rfl, by go_num, HLT.out, Lib.hid (by rw [HTK.out j HLT.out]; exact H9.out.1), Lib.hid (((own_keep HO.out (H8.out.2.1.alloc _) (fun _ _ q => q))).kept H9.out.2 (HV.out.apart HO.out (by decide))), Lib.hid ((HF.out.trans (H8.out.2.1.alloc _) (fun _ _ q => q)).grown H9.out.2 (fun k hk => .inr (by have := (HV.out.lt k hk).1; omega))), Lib.hid (HT.out.keep (F := fun k => w.heap.size + 1 ≤ k) (((H8.out.2.1.alloc _).mono (fun _ _ q => q.elim)).grown H9.out.2 (fun k hk => .inl (HV.out.lt k hk).1)) (by omega))⟩, by have := HLT.out; simp [intOf]; omega⟩
        · obtain rfl : j = m := by omega
          have hV := HV.out
          rw [List.take_of_length_le (by rw [HLN.out]; exact Nat.le_refl _)] at hV
          have HV2 := Lib.hid hV
          clear hV hlt hj HV hmk
          obtain ⟨Av, cv, rfl, _, _⟩ := HV2.out.form
          go_wp2_with fail
          go_ret
          exact ⟨_, rfl, HV2.out.mono (by omega), HF.out⟩
end Go.Proofs.Ytbnegiiombnnaaa
