/- Wb: laid together out of Rhl Apl Rse Two Rrow. -/
import Derived.Maps.AppendAt
import Derived.RegionTactic
import Derived.Test.YtjdbgojnpnlblaaGreatWa
namespace Go.Proofs.YtjdbgojnpnlblaaGreat
open Go.RowKit

/-- A row's halves, one by one. -/
def halfL (c n m : Nat) (b : List UInt8) (i : Nat) : List UInt8 := tagB ⟨c, n, i, m⟩ (((padB b).drop (48 * i)).take 48)
def halvesL (c n : Nat) (b : List UInt8) : List (List UInt8) := (List.range (many b.length)).map (halfL c n (many b.length) b)
set_option maxRecDepth 100000 in
theorem halfL_len {c n m i : Nat} {b : List UInt8} (h : i < many b.length) : (halfL c n m b i).length = 64 := by
  have hp := padB_len b
  unfold halfL
  exact tagB_len _ (by rw [List.length_take, List.length_drop]; omega)
set_option maxRecDepth 100000 in
theorem halvesL_len (c n : Nat) (b : List UInt8) : (halvesL c n b).length = many b.length := by simp [halvesL]
set_option maxRecDepth 100000 in
theorem halvesL_at {c n i : Nat} {b : List UInt8} (h : i < many b.length) : (halvesL c n b)[i]? = some (halfL c n (many b.length) b i) := by simp [halvesL, h]
set_option maxRecDepth 100000 in
theorem halvesL_take {c n k : Nat} {b : List UInt8} (h : k < many b.length) : (halvesL c n b).take (k + 1) = (halvesL c n b).take k ++ [halfL c n (many b.length) b k] := by
  rw [List.take_add_one, halvesL_at h]
  rfl
set_option maxRecDepth 100000 in
theorem full_take {ls : List (List UInt8)} (h : Full ls) (k : Nat) : Full (ls.take k) := fun l hl => h l (List.mem_of_mem_take hl)
set_option maxRecDepth 100000 in
theorem halvesL_full (c n : Nat) (b : List UInt8) : Full (halvesL c n b) := fun l hl => by
  obtain ⟨i, hi, rfl⟩ := List.mem_map.1 hl
  rw [halfL_len (List.mem_range.1 hi)]
  omega
/-- How long a row's bytes are, with noughts behind. -/
def padK (b : List UInt8) (k : Nat) : List UInt8 := be b.length 4 ++ (b ++ nought k)
set_option maxRecDepth 100000 in
theorem padK_len (b : List UInt8) (k : Nat) : (padK b k).length = 4 + b.length + k := by
  simp [padK, be_len, nought_len]; omega
set_option maxRecDepth 100000 in
theorem padK_snoc (b : List UInt8) (k : Nat) : padK b k ++ [0] = padK b (k + 1) := by
  have : nought (k + 1) = nought k ++ [0] := by simp [nought, List.replicate_succ']
  simp [padK, this]
set_option maxRecDepth 100000 in
theorem padK_all (b : List UInt8) {k : Nat} (h : 4 + b.length + k = 48 * many b.length) : padK b k = padB b := by
  unfold padK padB
  have : k = many b.length * 48 - 4 - b.length := by omega
  rw [this]
def lenV : Value → Nat
  | .slice _ n _ => n
  | _ => 0

set_option maxRecDepth 100000 in
set_option maxHeartbeats 4000000 in
theorem rhalves_any {w : World} {A : Option Addr} {k cb : Nat} {b : List UInt8} (hr : Rd w A k b) (hk : k ≤ 32768) (c n : Nat) (hc : c ≤ 18446744073709551615) (hn : n ≤ 9223372036854775807) :
    Calls Tryz.prog 78 #[.agg #[.int .u64 c, .int .i64 n], .slice A k cb] w fun e w' => ∃ v, e = .returned v ∧ Lst w' w.heap.size v (halvesL c n b) ∧ Fr (fun _ => False) w w' := by
  have hmk : 48 * many k < k + 52 ∧ k + 4 ≤ 48 * many k := by unfold many; omega
  have HMn := Lib.hid fun w => rmany_any w k (by omega)
  have hl := hr.len
  subst hl
  have HL := Lib.hid (fun k => @padK_all b k)
  have HTK := Lib.hid (fun k => @halvesL_take c n k b)
  have HHL := Lib.hid (fun m i => @halfL_len c n m i b)
  have HFU := Lib.hid (halvesL_full c n b)
  have HLN := Lib.hid (halvesL_len c n b)
  have HT0 : Hid (Blk (w.alloc (.cells #[.int .u64 (c : Nat), .int .i64 (n : Nat)] 91)) w.heap.size 91 #[.int .u64 (c : Nat), .int .i64 (n : Nat)]) := Lib.hid (Blk.new _ _ _)
  have HF0 : Hid (Fr (fun _ => False) w (w.alloc (.cells #[.int .u64 (c : Nat), .int .i64 (n : Nat)] 91))) := Lib.hid ((Fr.refl _ w).alloc _)
  have HS0 : Hid ((w.alloc (.cells #[.int .u64 (c : Nat), .int .i64 (n : Nat)] 91)).heap.size = w.heap.size + 1) := Lib.hid (by simp)
  have HR := Lib.hid hr
  clear hr
  obtain ⟨m, hm⟩ : ∃ m, m = many b.length := ⟨_, rfl⟩
  rw [← hm] at hmk
  simp only [← hm] at HMn HL HTK HLN
  have HM := Lib.hid hm
  clear hm
  have HC := Lib.hid (And.intro hc hn)
  clear hc hn
  go_enter Tryz.func78, Tryz.ntmps78
  go_wp2_with fail
  refine (rput_any _ b.length 4 (by omega) (by omega)).mono ?_
  rintro e w1 ⟨R1, rfl, hR1, hb1, hf1⟩
  have H1 := Lib.hid (And.intro hR1 (And.intro hb1 hf1))
  clear hR1 hb1 hf1
  have ho1 := own_of_blk (n := 4) (size := 1) (base := w.heap.size + 1) H1.out.2.1 (by have := H1.out.1; have := HS0.out; omega) (by rw [cellsB_len, be_len]) (by simp [maxLen])
  have HO1 := Lib.hid ho1
  clear ho1
  go_wp2_with (refine wpList_more rfl _ _ rfl (w.heap.size + 1) _ (be b.length 4) b rfl (by rw [be_len]; exact HO1.out) A b.length cb rfl ((HR.out.keep HF0.out (fun _ _ q => q)).keep H1.out.2.2 (fun _ _ q => q)) (by rw [be_len]; omega) (by have := H1.out.2.2.size; have := HS0.out; omega) ?_; intro v2 w2 ho2 hg2 hat2; have H2 := Lib.hid (And.intro ho2 (And.intro hg2 hat2)); clear ho2 hg2 hat2)
  (with_reducible refine (HMn.out _).mono ?_)
  rintro e w3 ⟨rfl, rfl⟩
  have hwf : Fr (fun _ => False) w w2 := (HF0.out.trans H1.out.2.2 (fun _ _ q => q)).grown H2.out.2.1 (fun j hj => .inr (by have := (HO1.out.lt j hj).1; omega))
  have hT2 : Blk w2 w.heap.size 91 #[.int .u64 (c : Nat), .int .i64 (n : Nat)] := HT0.out.keep (H1.out.2.2.grown H2.out.2.1 (fun j hj => .inr (by have := (HO1.out.lt j hj).1; have := HS0.out; omega))) (fun q => q)
  have hA0 : w2.ownsRow (w.heap.size + 1) 5 1 v2 (padK b 0).length (cellsB (padK b 0)) := by
    have e : be b.length 4 ++ b = padK b 0 := by simp [padK, nought]
    rw [← e]
    exact H2.out.1
  obtain ⟨A2, c2, rfl, hc2, hc3⟩ := own_slice hA0
  have H3 := Lib.hid (And.intro hwf (And.intro hT2 hA0))
  clear hwf hT2 hA0 hc2 hc3
  have hpl : (padK b 0).length = b.length + 4 := by rw [padK_len]; omega
  rw [hpl]
  have HPL := Lib.hid hpl
  clear hpl H2 H1 HO1
  go_wp2_with fail
  go_loopw [5] (fun x wr => ∃ (q : Nat) (A' : Option Addr) (c' : Nat), x = .slice A' (4 + b.length + q) c' ∧ 4 + b.length + q ≤ 48 * m ∧ Hid (wr.ownsRow (w.heap.size + 1) 5 1 (.slice A' (4 + b.length + q) c') (padK b q).length (cellsB (padK b q))) ∧ Hid (Fr (fun _ => False) w wr) ∧ Hid (Blk wr w.heap.size 91 #[.int .u64 (c : Nat), .int .i64 (n : Nat)])) (fun x _ => 48 * m - lenV x)
  case atStart => exact ⟨0, A2, c2, by rw [show b.length + 4 = 4 + b.length + 0 from by omega], by omega, Lib.hid (by
    have h := H3.out.2.2
    rw [HPL.out] at h
    rw [show 4 + b.length + 0 = b.length + 4 from by omega, HPL.out]
    exact h), Lib.hid H3.out.1, Lib.hid H3.out.2.1⟩
  case round =>
    obtain ⟨q, A', c', rfl, hq, HO, HF, HT⟩ := hrel
    by_cases hlt : 4 + b.length + q < 48 * m
    · have HQ := Lib.hid hlt
      have h48 : (((4 + b.length + q : Nat)) : Int) < 48 * (m : Int) := by omega
      have hd : decide (((4 + b.length + q : Nat) : Int) < 48 * (m : Int)) = true := by simpa using h48
      have HON := Lib.hid (World.ownsRow.alloc HO.out (.cells #[.int .u8 0] 5))
      have HR1 := Lib.hid (one_byte wr 5 0)
      have hbs : Hid (w.heap.size + 1 ≤ (wr.alloc (.cells #[.int .u8 0] 5)).heap.size) := Lib.hid (by have := HT.out.lt; simp; omega)
      have hpk : Hid ((padK b q).length = 4 + b.length + q) := Lib.hid (padK_len b q)
      have hps : Hid (padK b q ++ [0] = padK b (q + 1)) := Lib.hid (padK_snoc b q)
      clear hlt hq
      generalize hNq : 4 + b.length + q = Nq at *
      have HNq := Lib.hid hNq
      clear hNq
      go_wp2_with (refine wpList_more rfl _ _ rfl (w.heap.size + 1) _ (padK b q) [0] rfl HON.out _ 1 1 rfl HR1.out (by rw [hpk.out]; have := HQ.out; omega) hbs.out ?_; intro v3 w3 ho3 hg3 hat3; have H4 := Lib.hid (And.intro ho3 (And.intro hg3 hat3)); clear ho3 hg3 hat3)
      have ho := H4.out.1
      rw [hps.out] at ho
      obtain ⟨A3, c3, rfl, _, _⟩ := own_slice ho
      have e : (padK b (q + 1)).length = 4 + b.length + (q + 1) := padK_len b (q + 1)
      rw [e] at ho ⊢
      have fr : Fr (fun j => w.heap.size + 1 ≤ j) wr w3 := ((Fr.refl _ wr).alloc _).grown H4.out.2.1 (fun j hj => .inl (HON.out.lt j hj).1)
      refine ⟨⟨q + 1, A3, c3, congrArg (fun z => Value.slice A3 z c3) (by have := HNq.out; first | omega | simp), ?_, Lib.hid (by rw [e]; exact ho), Lib.hid (HF.out.trans fr (fun j hj hq => by omega)), Lib.hid (HT.out.keep fr (by omega))⟩, ?_⟩
      · have := HQ.out; have := HNq.out; omega
      · have := HQ.out; have := HNq.out; simp [lenV]; omega
    · have he : 4 + b.length + q = 48 * m := by omega
      have hpa := HL.out q he
      rw [hpa, he] at HO
      have hpl2 : (padB b).length = 48 * m := by rw [← hpa, padK_len, he]
      rw [hpl2] at HO
      rw [he]
      have HPB := Lib.hid hpl2
      clear hlt hq he hpa hpl2 HPL H3
      generalize wr = w3 at *
      go_wp2_with fail
      have HCC := Lib.hid (own_le HO.out)
      have hmm : m ≤ 1000 ∧ 1 ≤ m := by omega
      go_loopw [7, 8, 9] (fun o i _ wr => ∃ (j : Nat) (v : Value), v = o ∧ i = .int .i64 j ∧ j ≤ m ∧ Hid (Lst wr (w.heap.size + 1) v ((halvesL c n b).take j)) ∧ Hid (wr.ownsRow (w.heap.size + 1) 5 1 (.slice A' (48 * m) c') (48 * m) (cellsB (padB b))) ∧ Hid (Fr (fun _ => False) w wr) ∧ Hid (Blk wr w.heap.size 91 #[.int .u64 (c : Nat), .int .i64 (n : Nat)])) (fun _ i _ _ => m - (intOf i).toNat)
      case atStart => exact ⟨0, _, rfl, rfl, Nat.zero_le _, Lib.hid (Lst.nil _ _), HO, HF, HT⟩
      case round =>
        clear HO HF HT
        obtain ⟨j, v, rfl, rfl, hj, HV, HO, HF, HT⟩ := hrel
        by_cases hlt : j < m
        · have h0 := HT.out.cell 0
          have h1 := HT.out.cell 1
          simp at h0 h1
          have HSZ : Hid (w.heap.size + 1 ≤ wr.heap.size) := Lib.hid (by have := HT.out.lt; omega)
          clear hj hmk
          have hwn : IntKind.u64.wrap (n : Int) = (n : Int) := by have := HC.out.2; simp [IntKind.wrap, IntKind.signed, IntKind.bits]; omega
          go_wp2_with fail
          go_region_held3 (fun w' => w'.cell? ⟨w.heap.size, 0, none⟩ = some (.int .u64 (c : Nat)) ∧ w'.cell? ⟨w.heap.size, 1, none⟩ = some (.int .i64 (n : Nat)))
            (first
              | (exact ⟨cell_new h0 hff, cell_new h1 hff⟩)
              | (exact ⟨cell_new (w := wr) h0 ((((Fr.refl (fun _ => False) wr).drew).trans hnf (fun _ _ q => q)).trans hcf (fun _ _ q => q)), cell_new (w := wr) h1 ((((Fr.refl (fun _ => False) wr).drew).trans hnf (fun _ _ q => q)).trans hcf (fun _ _ q => q))⟩)
              | (exact ⟨cell_new (w := wr) h0 ((((Fr.refl (fun _ => False) wr).drew).trans hcf (fun _ _ q => q)).trans hnf (fun _ _ q => q)), cell_new (w := wr) h1 ((((Fr.refl (fun _ => False) wr).drew).trans hcf (fun _ _ q => q)).trans hnf (fun _ _ q => q))⟩)
              | (exact ⟨cell_new (w := wr) h0 (((Fr.refl (fun _ => False) wr).drew).trans hcf (fun _ _ q => q)), cell_new (w := wr) h1 (((Fr.refl (fun _ => False) wr).drew).trans hcf (fun _ _ q => q))⟩)
              | (exact ⟨cell_new (w := wr) h0 (((Fr.refl (fun _ => False) wr).drew).trans hnf (fun _ _ q => q)), cell_new (w := wr) h1 (((Fr.refl (fun _ => False) wr).drew).trans hnf (fun _ _ q => q))⟩)
              | go_keep)
            ((first
              | (refine step_append_bytes rfl (.tmp 34) (.tmp 38) rfl wr.heap.size (.slice (some ⟨Rc, 0, none⟩) 8 8) (be c 8) (be n 4) (by rfl) (bytes_own (by first | exact hcb | exact hcb.keep hnf (fun q => q)) (by first | exact hcR | exact Nat.le_trans hnf.size hcR) (be_len _ _) (by simp [maxLen])) (some ⟨Rn, 0, none⟩) 4 4 (by rfl) (bytes_rd (by first | exact hnb | exact hnb.keep hcf (fun q => q)) (be_len _ _) (by omega)) (by rw [be_len]; omega) (by first | exact Nat.le_trans hcf.size hnf.size | exact Nat.le_trans hnf.size hcf.size) ?_; intro vh wh hho hhg hha; have hff : Fr (fun _ => False) wr wh := (by
                  have hRc : wr.heap.size ≤ Rc := by first | exact hcR | exact Nat.le_trans hnf.size hcR
                  first
                    | exact ((((Fr.refl (fun _ => False) wr).drew).trans hcf (fun _ _ q => q)).trans hnf (fun _ _ q => q)).grown hhg (fun j hj => .inr (by simp [Value.ownBlock] at hj; omega))
                    | exact ((((Fr.refl (fun _ => False) wr).drew).trans hnf (fun _ _ q => q)).trans hcf (fun _ _ q => q)).grown hhg (fun j hj => .inr (by simp [Value.ownBlock] at hj; omega))); clear hcf hnf hcb hnb hcR hnR hhg hha)
              | (go_at_call_of 52 (Value.int IntKind.u64 (c : Nat)); refine (rput_any _ c 8 (by have := HC.out; omega) (by omega)).mono ?_; rintro e wc ⟨Rc, rfl, hcR, hcb, hcf⟩)
              | (go_at_call_of 52 (Value.int IntKind.u64 (n : Nat)); refine (rput_any _ n 4 (by have := HC.out; omega) (by omega)).mono ?_; rintro e wn ⟨Rn, rfl, hnR, hnb, hnf⟩)))
          all_goals
            have HH := Lib.hid (And.intro hho hff)
            clear hho hff h0 h1
            have hj9 : j ≤ 1000 := by omega
            have HLT := Lib.hid hlt
            clear hlt
            go_wp2_with fail
            refine (rput_any _ j 2 (by omega) (by omega)).mono ?_
            rintro e w4 ⟨R4, rfl, hR4, hb4, hf4⟩
            have H4 := Lib.hid (And.intro hR4 (And.intro hb4 hf4))
            clear hR4 hb4 hf4
            go_wp2_with (refine wpList_more rfl (.tmp 40) (.tmp 43) rfl wr.heap.size vh (be c 8 ++ be n 4) (be j 2) rfl (own_keep HH.out.1 H4.out.2.2 (fun _ _ q => q)) (some ⟨R4, 0, none⟩) 2 2 rfl (bytes_rd H4.out.2.1 (be_len _ _) (by omega)) (by simp [be_len]) (Nat.le_trans HH.out.2.size H4.out.2.2.size) ?_; intro v5 w5 ho5 hg5 hat5; have H5 := Lib.hid (And.intro ho5 ((HH.out.2.trans H4.out.2.2 (fun _ _ q => q)).grown hg5 (fun k hk => .inr (HH.out.1.lt k hk).1))); clear ho5 hg5 hat5)
            refine (rput_any _ m 2 (by omega) (by omega)).mono ?_
            rintro e w6 ⟨R6, rfl, hR6, hb6, hf6⟩
            have H6 := Lib.hid (And.intro hR6 (And.intro hb6 hf6))
            clear hR6 hb6 hf6
            have hHL : (((be c 8 ++ be n 4) ++ be j 2) ++ be m 2) ++ (((padB b).drop (48 * j)).take 48) = halfL c n m b j := by simp [halfL, tagB]
            have hH64 : (halfL c n m b j).length = 64 := HHL.out m j (by rw [← HM.out]; exact HLT.out)
            have hrdA := Rd.of_own HO.out
            obtain ⟨ad, hAd, hsl, hrdP⟩ := slice_part (c := c') hrdA HCC.out.1 (48 * j) (48 * j + 48) (by omega) (by have := HLT.out; omega)
            have e48 : 48 * j + 48 - 48 * j = 48 := by omega
            have ej1 : ((48 * j : Nat) : Int) = 48 * (j : Int) := by omega
            have ej2 : ((48 * j + 48 : Nat) : Int) = 48 * (j : Int) + 48 := by omega
            rw [e48, ej1, ej2] at hsl
            rw [e48] at hrdP
            have HLL := Lib.hid (And.intro hHL (And.intro hH64 (And.intro hAd hrdP)))
            clear hHL hH64 hrdA hAd hrdP e48 ej1 ej2
            have hLen : Hid (((((be c 8 ++ be n 4) ++ be j 2) ++ be m 2)).length = 16) := Lib.hid (by simp [be_len])
            go_wp2_with (first
              | (refine wpList_more rfl (.tmp 44) (.tmp 47) rfl wr.heap.size v5 ((be c 8 ++ be n 4) ++ be j 2) (be m 2) rfl (own_keep H5.out.1 H6.out.2.2 (fun _ _ q => q)) (some ⟨R6, 0, none⟩) 2 2 rfl (bytes_rd H6.out.2.1 (be_len _ _) (by omega)) (by simp [be_len]) (Nat.le_trans H5.out.2.size H6.out.2.2.size) ?_; intro v7 w7 ho7 hg7 hat7; have H7 := Lib.hid (And.intro ho7 ((H5.out.2.trans H6.out.2.2 (fun _ _ q => q)).grown hg7 (fun k hk => .inr (H5.out.1.lt k hk).1))); clear ho7 hg7 hat7)
              | (refine wpList_more rfl (.tmp 50) (.tmp 57) rfl wr.heap.size v7 (((be c 8 ++ be n 4) ++ be j 2) ++ be m 2) (((padB b).drop (48 * j)).take 48) rfl H7.out.1 (some (ad.add (48 * j))) 48 (c' - 48 * j) rfl (HLL.out.2.2.2.keep H7.out.2 (fun _ _ q => q)) (by rw [hLen.out]; omega) H7.out.2.size ?_; intro v8 w8 ho8 hg8 hat8; rw [HLL.out.1] at ho8; obtain ⟨A8, c8, hv8, hc8, hc9⟩ := own_slice ho8; rw [HLL.out.2.1] at hv8 hc8; subst hv8; have H8 := Lib.hid (And.intro ho8 (And.intro (H7.out.2.grown hg8 (fun k hk => .inr (H7.out.1.lt k hk).1)) hc8)); clear ho8 hg8 hat8 hc8 hc9)
              | (refine wpList_append_lst rfl (.tmp 49) (.tmp 59) rfl (base := w.heap.size + 1) (v := v) (ls := (halvesL c n b).take j) (ms := [halfL c n m b j]) (us := [.slice A8 64 c8]) (HV.out.new (H8.out.2.1.alloc _)) (B := w8.heap.size) (m := 1) (Blk.new w8 _ _) (Els.one HLL.out.2.1 H8.out.2.2 ((bytes_rd2 H8.out.1 HLL.out.2.1).keep (F := fun _ => False) ((Fr.refl _ w8).alloc _) (fun _ _ q => q)) (own_none H8.out.1) (fun ad e => ⟨by have := (H8.out.1.lt ad.block (by rw [e]; rfl)).1; have := HSZ.out; omega, fun q => by have := (H8.out.1.lt ad.block (by rw [e]; rfl)).1; have := (HV.out.lt ad.block q).2; omega⟩)) rfl 1 rfl rfl (full_take HFU.out j) (fun l hl => by rw [List.mem_singleton.1 hl, HLL.out.2.1]; omega) (by rw [List.length_take]; omega) (by have := H8.out.2.1.size; have := HSZ.out; simp; omega) ?_; intro v9 w9 hl9 hg9 hat9; have H9 := Lib.hid (And.intro hl9 hg9); clear hl9 hg9 hat9))
            refine ⟨⟨j + 1, v9, rfl, by go_num, HLT.out, Lib.hid (by rw [HTK.out j HLT.out]; exact H9.out.1), Lib.hid (((own_keep HO.out (H8.out.2.1.alloc _) (fun _ _ q => q))).kept H9.out.2 (HV.out.apart HO.out (by decide))), Lib.hid ((HF.out.trans (H8.out.2.1.alloc _) (fun _ _ q => q)).grown H9.out.2 (fun k hk => .inr (by have := (HV.out.lt k hk).1; omega))), Lib.hid (HT.out.keep (F := fun k => w.heap.size + 1 ≤ k) (((H8.out.2.1.alloc _).mono (fun _ _ q => q.elim)).grown H9.out.2 (fun k hk => .inl (HV.out.lt k hk).1)) (by omega))⟩, by have := HLT.out; simp [intOf]; omega⟩
        · obtain rfl : j = m := by omega
          have hV := HV.out
          rw [List.take_of_length_le (by rw [HLN.out]; exact Nat.le_refl _)] at hV
          have HV2 := Lib.hid hV
          clear hV hlt hj HV hmk
          obtain ⟨Av, cv, rfl, _, _⟩ := HV2.out.form
          go_wp2_with fail
          go_ret
          exact ⟨_, rfl, HV2.out.mono (by omega), HF.out⟩
end Go.Proofs.YtjdbgojnpnlblaaGreat

namespace Go.Proofs.YtjdbgojnpnlblaaGreat
open Go.RowKit

def rowL (x : RowD) : List UInt8 := rowB x.c x.n.toNat x.l
def nL (x : RowD) : Nat := (many x.l.length + 1) / 2
set_option maxRecDepth 100000 in
theorem rowL_len (x : RowD) : (rowL x).length = nL x * 128 := rowB_len _ _ _
set_option maxRecDepth 100000 in
theorem nL_pos (x : RowD) : 0 < nL x := by
  have := many_pos x.l.length
  unfold nL
  omega
set_option maxRecDepth 100000 in
theorem nL_le {x : RowD} (h : x.l.length ≤ 3000) : nL x ≤ 32 := by
  unfold nL many
  omega
def catL (xs : List RowD) : List UInt8 := xs.flatMap rowL
def cntL (xs : List RowD) : Nat := (xs.map nL).sum
def secsL (xs : List RowD) : List (List UInt8) := xs.flatMap fun x => secs (rowL x) (nL x)
set_option maxRecDepth 100000 in
theorem catL_len (xs : List RowD) : (catL xs).length = cntL xs * 128 := by
  induction xs with
  | nil => rfl
  | cons x r ih =>
    have : catL (x :: r) = rowL x ++ catL r := rfl
    have h2 : cntL (x :: r) = nL x + cntL r := by simp [cntL]
    rw [this, List.length_append, ih, rowL_len, h2, Nat.add_mul]
set_option maxRecDepth 100000 in
theorem secsL_len (xs : List RowD) : (secsL xs).length = cntL xs := by
  induction xs with
  | nil => rfl
  | cons x r ih =>
    have : secsL (x :: r) = secs (rowL x) (nL x) ++ secsL r := rfl
    have h2 : cntL (x :: r) = nL x + cntL r := by simp [cntL]
    rw [this, List.length_append, ih, secs_len, h2]
set_option maxRecDepth 100000 in
theorem cntL_snoc (xs : List RowD) (x : RowD) : cntL (xs ++ [x]) = cntL xs + nL x := by simp [cntL]
set_option maxRecDepth 100000 in
theorem catL_snoc (xs : List RowD) (x : RowD) : catL (xs ++ [x]) = catL xs ++ rowL x := by simp [catL]
set_option maxRecDepth 100000 in
theorem cntL_le {xs : List RowD} (h : ∀ x ∈ xs, x.l.length ≤ 3000) : cntL xs ≤ xs.length * 32 := by
  induction xs with
  | nil => simp [cntL]
  | cons x r ih =>
    have h2 : cntL (x :: r) = nL x + cntL r := by simp [cntL]
    have h3 := nL_le (h x (by simp))
    have h4 := ih (fun y hy => h y (by simp [hy]))
    rw [h2, List.length_cons]
    omega
set_option maxRecDepth 100000 in
theorem secs_app {l m : List UInt8} {a b : Nat} (hl : l.length = a * 128) : secs (l ++ m) (a + b) = secs l a ++ secs m b := by
  unfold secs
  rw [List.range_add, List.map_append, List.map_map]
  congr 1
  · apply List.map_congr_left
    intro i hi
    have hi := List.mem_range.1 hi
    rw [List.drop_append_of_le_length (by omega), List.take_append_of_le_length (by rw [List.length_drop]; omega)]
  · apply List.map_congr_left
    intro i hi
    simp only [Function.comp_apply]
    have e : 128 * (a + i) = l.length + 128 * i := by omega
    rw [e, List.drop_append]
    have e2 : l.length + 128 * i - l.length = 128 * i := by omega
    rw [e2, List.drop_of_length_le (by omega)]
    rfl
set_option maxRecDepth 100000 in
theorem secs_cat : ∀ xs : List RowD, secs (catL xs) (cntL xs) = secsL xs
  | [] => rfl
  | x :: r => by
    have h1 : catL (x :: r) = rowL x ++ catL r := rfl
    have h2 : cntL (x :: r) = nL x + cntL r := by simp [cntL]
    have h3 : secsL (x :: r) = secs (rowL x) (nL x) ++ secsL r := rfl
    rw [h1, h2, h3, secs_app (rowL_len x), secs_cat r]

set_option maxRecDepth 100000 in
theorem SecV.in_ {w : World} {v : Value} {ss : List (List UInt8)} (h : SecV w v ss) : SecIn w v ss := by
  obtain ⟨A, cap, rfl, _, _, h⟩ := h
  rcases Nat.eq_zero_or_pos ss.length with e | e
  · exact .inl ⟨List.eq_nil_of_length_eq_zero e, A, cap, by rw [e]⟩
  · obtain ⟨b, off, rfl, h1⟩ := h e
    exact .inr ⟨b, off, cap, rfl, e, h1⟩
set_option maxRecDepth 100000 in
theorem SecsAt.drop {w : World} {b off : Nat} {ss : List (List UInt8)} (h : SecsAt w b off ss) (n : Nat) : SecsAt w b (off + n * 128) (ss.drop n) := fun i s hi => by
  rw [List.getElem?_drop] at hi
  have := h (n + i) s hi
  have e : off + (n + i) * 128 = off + n * 128 + i * 128 := by omega
  rw [e] at this
  exact this
set_option maxRecDepth 100000 in
theorem secV_own {w : World} {base : Nat} {v : Value} {xs : List RowD} (h : w.ownsRow base 45 128 v (cntL xs) (cellsB (catL xs))) : SecV w v (secsL xs) := by
  have h0 := h
  rcases h.2 with ⟨rfl, e⟩ | ⟨g, cap, cur, rfl, _, _, hn, hc, _⟩
  · refine ⟨none, 0, by rw [secsL_len, e], by rw [secsL_len, e]; exact Nat.le_refl _, Nat.zero_le _, fun q => ?_⟩
    rw [secsL_len, e] at q
    omega
  · refine ⟨_, cap, by rw [secsL_len], by rw [secsL_len]; exact hn, hc, fun _ => ⟨g, 0, rfl, fun i s hi => ?_⟩⟩
    have hlt : i < cntL xs := by
      have := (List.getElem?_eq_some_iff.1 hi).1
      rwa [secsL_len] at this
    rw [← secs_cat, secs_at _ hlt] at hi
    injection hi with hi
    subst hi
    have hlen := catL_len xs
    refine ⟨by rw [List.length_take, List.length_drop]; omega, fun j u hu => ?_⟩
    have hj : j < 128 := by
      have := (List.getElem?_eq_some_iff.1 hu).1
      rw [cellsB_len, List.length_take] at this
      omega
    have := h0.cells (g := g) rfl (i * 128 + j) u (by
      rw [← hu]
      unfold cellsB
      rw [List.getElem?_map, List.getElem?_map, List.getElem?_take, if_pos hj, List.getElem?_drop]
      have e : 128 * i + j = i * 128 + j := by omega
      rw [e])
    have e : 0 + i * 128 + j = i * 128 + j := by omega
    rw [e]
    rw [Addr.add_lit, Nat.zero_add] at this
    exact this

section
variable {ops : Array Oper} {o : Oper} {a : Act} {Q : Exit → Act → World → Prop}
set_option maxRecDepth 100000 in
theorem wpList_append_row {rest : List Oper} {w : World} (hg : o.guard = none) (s x : Operand) (hop : o.op = Op.call { callee := Callee.builtin Builtin.append, args := #[s, x], argTypes := #[33, 33] })
    (base : Nat) (v : Value) (N : Nat) (L l : List UInt8) (hown : w.ownsRow base 45 128 v N (cellsB L)) {R m c : Nat} (hb : Blk w R 45 (cellsB l).toArray) (hl : l.length = m * 128)
    (hs : a.eval s = v) (hx : a.eval x = .slice (some ⟨R, 0, none⟩) m c) (hN : N + m ≤ 1000000) (hbase : base ≤ w.heap.size)
    (hK : ∀ v' w', w'.ownsRow base 45 128 v' (N + m) (cellsB (L ++ l)) → w.grownBy w' v.ownBlock → wpList Tryz.prog ops Q rest (a.put o.dst v') w') : wpList Tryz.prog ops Q (o :: rest) a w := by
  obtain ⟨i0, hi, hz0, hz1, hz2⟩ := info_parts infoSec
  refine wpList_plain hg fun K hK' => ?_
  obtain ⟨v', w', hrun, h2, h3, _, _⟩ := run_append_own_at (P := Tryz.prog) w base 33 o.type 45 i0 (av (nought 128)) 128 128 Tryz.underlying33 hi hz0 hz1 hz2 (by simp [Value.cells, cellsB_len, nought_len]) (by omega) v N (cellsB L) hown ⟨R, 0, none⟩ m c (cellsB l)
    (by rw [cellsB_len, hl]) (fun j u hj => by
      rw [Addr.add_lit, Nat.zero_add, hb.cell j]
      simpa using hj) (cellsB_one l) (by simp only [maxLen]; omega) (by omega) hbase
  rw [← cellsB_app] at h2
  unfold Oper.wp
  simp [execOp, hop, resolve, invoke, builtin, hs, hx, hrun, Result.andThen]
  exact hK' _ _ (hK v' w' h2 h3)
end

set_option maxRecDepth 100000 in
theorem split_row {w : World} {x : RowD} (h : RowOk w x) (hm : mayT x.c x.n = true) (h3 : x.m ≤ 3000) :
    Calls Tryz.prog 68 #[.agg #[.int .u64 x.c, .int .i64 x.n], .slice x.A x.m x.k] w fun e w' => ∃ R, e = .returned (.tuple #[.slice (some ⟨R, 0, none⟩) (nL x) (nL x), .int .i64 0]) ∧ w.heap.size ≤ R ∧ Blk w' R 45 (cellsB (rowL x)).toArray ∧ Fr (fun _ => False) w w' := by
  have hn : x.n = (x.n.toNat : Int) := by
    unfold mayT at hm
    simp at hm
    omega
  have hl := h.rd.len
  have hrd : Rd w x.A x.l.length x.l := by
    rw [hl]
    exact h.rd
  have := split_any (cb := x.k) hrd (by omega) x.c x.n.toNat (by rw [← hn]; exact hm)
  rw [hl, ← hn] at this
  exact this
end Go.Proofs.YtjdbgojnpnlblaaGreat

namespace Go.Proofs.YtjdbgojnpnlblaaGreat
open Go.RowKit

/-- Halves, two by two. -/
def secL (ls : List (List UInt8)) (i : Nat) : List UInt8 := (ls[2 * i]?).getD (nought 64) ++ (ls[2 * i + 1]?).getD (nought 64)
def sectorsL (ls : List (List UInt8)) : List (List UInt8) := (List.range ((ls.length + 1) / 2)).map (secL ls)
def All64 (ls : List (List UInt8)) : Prop := ∀ l ∈ ls, l.length = 64
set_option maxRecDepth 100000 in
theorem secL_len {ls : List (List UInt8)} (h : All64 ls) (i : Nat) : (secL ls i).length = 128 := by
  have q : ∀ j : Nat, ((ls[j]?).getD (nought 64)).length = 64 := fun j => by
    cases hj : ls[j]? with
    | none => simp [nought]
    | some l => exact h l (List.mem_of_getElem? hj)
  unfold secL
  rw [List.length_append, q, q]
set_option maxRecDepth 100000 in
theorem sectorsL_len (ls : List (List UInt8)) : (sectorsL ls).length = (ls.length + 1) / 2 := by simp [sectorsL]
set_option maxRecDepth 100000 in
theorem sectorsL_take {ls : List (List UInt8)} {k : Nat} (h : k < (ls.length + 1) / 2) : ((sectorsL ls).take (k + 1)).flatten = ((sectorsL ls).take k).flatten ++ secL ls k := by
  have : (sectorsL ls)[k]? = some (secL ls k) := by simp [sectorsL, h]
  rw [List.take_add_one, this]
  simp
set_option maxRecDepth 100000 in
theorem flat_len {ls : List (List UInt8)} {k : Nat} (h : All64 ls) : (((sectorsL ls).take k).flatten).length = min k ((ls.length + 1) / 2) * 128 := by
  have q : ∀ l ∈ (sectorsL ls).take k, l.length = 128 := fun l hl => by
    obtain ⟨i, _, rfl⟩ := List.mem_map.1 (List.mem_of_mem_take hl)
    exact secL_len h i
  have e : ∀ xs : List (List UInt8), (∀ l ∈ xs, l.length = 128) → xs.flatten.length = xs.length * 128 := fun xs => by
    induction xs with
    | nil => intro _; rfl
    | cons x r ih =>
      intro hx
      rw [List.flatten_cons, List.length_append, hx x (by simp), ih (fun l hl => hx l (by simp [hl])), List.length_cons]
      omega
  rw [e _ q, List.length_take, sectorsL_len]

set_option maxRecDepth 100000 in
/-- Where the rows of a list lie. -/
theorem Lst.at_ {w : World} {base : Nat} {v : Value} {ls : List (List UInt8)} (h : Lst w base v ls) (hn : 0 < ls.length) : ∃ g cap, v = .slice (some ⟨g, 0, none⟩) ls.length cap ∧ base ≤ g ∧ g < w.heap.size ∧ ls.length ≤ cap ∧ cap ≤ maxLen ∧
    ∀ i l, ls[i]? = some l → ∃ A c, w.cell? ⟨g, i, none⟩ = some (.slice A l.length c) ∧ l.length ≤ c ∧ Rd w A l.length l ∧ (A = none → c = 0) := by
  obtain ⟨vs, h1, h2⟩ := h
  have h0 := h1
  rcases h1.2 with ⟨_, e⟩ | ⟨g, cap, cur, rfl, hb, hh, hnc, hcm, _⟩
  · omega
  · refine ⟨g, cap, rfl, hb, (h0.lt g rfl).2, hnc, hcm, fun i l hi => ?_⟩
    obtain ⟨A, c, k1, k2, k3, k5, _⟩ := h2.2 i l hi
    have := h0.cells (g := g) rfl i _ k1
    rw [Addr.add_lit, Nat.zero_add] at this
    exact ⟨A, c, this, k2, k3, k5⟩

set_option maxRecDepth 100000 in
/-- A half laid over a sector. -/
theorem copy_half {w : World} {S o n : Nat} {s l : List UInt8} (hS : Blk w S 45 (cellsB s).toArray) (hs : s.length = 128) {A : Option Addr} {c : Nat} (hr : Rd w A 64 l) (hn : o + n = 128) (h64 : 64 ≤ n) (ty : TypeId) :
    (Builtin.copy_ #[68, 68] ty #[.slice (some ⟨S, o, none⟩) n n, .slice A 64 c]).run Tryz.prog w = .ok (goInt 64) (w.setCells S o (cellsB l)) := by
  have hl := hr.len
  obtain ⟨ad, rfl, hcell⟩ := hr.2 (by omega)
  have h := run_copy_cells (P := Tryz.prog) w 68 68 ty 5 S o n n ad 64 c (cellsB l) Tryz.underlying68 (by kernel_rfl) (by rw [cellsB_len, hl]; exact (Nat.min_eq_left h64).symm)
    (fun j v hv => by
      obtain ⟨ch, hch, rfl⟩ := cellsB_get l j v hv
      exact hcell j ch hch)
    (fun j hj => ((hS.there (o := o) (n := 64) (by simp [cellsB_len, hs]; omega)) j (by rw [cellsB_len, hl] at hj; exact hj)).1) (fun j hj => ((hS.there (o := o) (n := 64) (by simp [cellsB_len, hs]; omega)) j (by rw [cellsB_len, hl] at hj; exact hj)).2) (cellsB_one _)
  rw [cellsB_len, hl] at h
  exact h

section
variable {ops : Array Oper} {o : Oper} {a : Act} {Q : Exit → Act → World → Prop}
end

set_option maxRecDepth 100000 in
set_option maxHeartbeats 4000000 in
theorem rsectors_any {w : World} {base : Nat} {v : Value} {ls : List (List UInt8)} (h : Lst w base v ls) (h64 : All64 ls) (hn : ls.length ≤ 1000) :
    Calls Tryz.prog 77 #[v] w fun e w' => ∃ v', e = .returned v' ∧ w'.ownsRow w.heap.size 45 128 v' ((ls.length + 1) / 2) (cellsB (sectorsL ls).flatten) ∧ Fr (fun _ => False) w w' := by
  rcases Nat.eq_zero_or_pos ls.length with h0 | h0
  · obtain rfl := List.eq_nil_of_length_eq_zero h0
    obtain ⟨A, c, rfl, _, _⟩ := h.form
    clear h h64 hn h0
    have e : ([] : List (List UInt8)).length = 0 := rfl
    rw [e]
    clear e
    go_enter Tryz.func77, Tryz.ntmps77
    go_wp2_with fail
    go_loopw [3, 4, 5] (fun o x _ wr => o = .slice none 0 0 ∧ x = .int .i64 0 ∧ wr = w) (fun _ x _ _ => 0)
    case atStart => exact ⟨rfl, rfl, rfl⟩
    case round =>
      obtain ⟨rfl, rfl, rfl⟩ := hrel
      go_wp2_with fail
      go_ret
      exact ⟨_, rfl, World.ownsRow_nil _ _ _ _, Fr.refl _ _⟩
  · obtain ⟨g, cap, rfl, hb, hg, hnc, hcm, hat⟩ := h.at_ h0
    have HN := Lib.hid (And.intro hb (And.intro hg (And.intro hnc hcm)))
    have HAT : Hid (∀ W, Fr (fun _ => False) w W → ∀ i l, ls[i]? = some l → ∃ A c, W.cell? ⟨g, i, none⟩ = some (.slice A l.length c) ∧ l.length ≤ c ∧ Rd W A l.length l) := Lib.hid fun W f i l hi => by
      obtain ⟨A, c, k1, k2, k3, _⟩ := hat i l hi
      exact ⟨A, c, cell_new k1 f, k2, k3.keep f (fun _ _ q => q)⟩
    have H64 := Lib.hid h64
    clear hb hg hnc hcm hat h h64
    obtain ⟨n, hln⟩ : ∃ n, n = ls.length := ⟨_, rfl⟩
    rw [← hln] at hn h0 ⊢
    have HLN := Lib.hid hln
    clear hln
    go_enter Tryz.func77, Tryz.ntmps77
    go_wp2_with fail
    go_loopw [3, 4, 5] (fun o x _ wr => ∃ (k i : Nat) (v : Value), v = o ∧ x = .int .i64 i ∧ Hid (i = 2 * k) ∧ i ≤ n + 1 ∧ Hid (wr.ownsRow w.heap.size 45 128 v k (cellsB ((sectorsL ls).take k).flatten)) ∧ Hid (Fr (fun _ => False) w wr)) (fun _ x _ _ => n + 1 - (intOf x).toNat)
    case atStart => exact ⟨0, 0, _, rfl, rfl, Lib.hid rfl, by omega, Lib.hid (World.ownsRow_nil _ _ _ _), Lib.hid (Fr.refl _ _)⟩
    case round =>
      obtain ⟨k, i, v, rfl, rfl, HI, hk, HO, HF⟩ := hrel
      by_cases hlt : i < n
      · obtain ⟨l, hl⟩ : ∃ l, ls[i]? = some l := ⟨_, List.getElem?_eq_getElem (by have := HLN.out; omega)⟩
        have hl64 := H64.out l (List.mem_of_getElem? hl)
        have HFa := Lib.hid (HF.out.alloc (.cells (cellsB (nought 128)).toArray 45))
        obtain ⟨A, c, hc, hcc, hrd⟩ := HAT.out _ HFa.out i l hl
        rw [hl64] at hc hcc hrd
        have HS := Lib.hid (Blk.new wr 45 (cellsB (nought 128)).toArray)
        have hcp := copy_half (w := (wr.alloc (.cells (cellsB (nought 128)).toArray 45)).drew) (o := 0) (n := 128) (c := c) HS.out (nought_len _) hrd (by omega) (by omega)
        have hov := Blk.over (w := (wr.alloc (.cells (cellsB (nought 128)).toArray 45)).drew) (o := 0) (m := l) HS.out (by rw [hl64, nought_len]; omega)
        have hfs : Fr (fun _ => False) wr ((wr.alloc (.cells (cellsB (nought 128)).toArray 45)).drew.setCells wr.heap.size 0 (cellsB l)) := Fr.setCells (.inr (Nat.le_refl _)) (((Fr.refl _ wr).alloc _).drew)
        have HL := Lib.hid (And.intro hl (And.intro hl64 (And.intro hov hfs)))
        clear hl hl64 hcc hrd hk hov hfs HFa
        have hi0 : (0 : Int) ≤ (i : Int) := by omega
        have hi1 : (i : Int) < (n : Int) := by omega
        go_wp2_with (refine wpList_zero rfl 45 rfl zeroSector ?_)
        go_region
        have HW := Lib.hid (And.intro HL.out.2.2.1 HL.out.2.2.2)
        clear hcp hc HS
        generalize (wr.alloc (.cells (cellsB (nought 128)).toArray 45)).drew.setCells wr.heap.size 0 (cellsB l) = w1 at *
        have hp1 : patch (nought 128) 0 l = l ++ nought 64 := by
          have := patch_app [] (nought 128) l
          simpa [HL.out.2.1, nought_drop] using this
        have HP := Lib.hid hp1
        clear hp1
        by_cases hlt2 : i + 1 < n
        · obtain ⟨l2, hl2⟩ : ∃ l, ls[i + 1]? = some l := ⟨_, List.getElem?_eq_getElem (by have := HLN.out; omega)⟩
          have hl64 := H64.out l2 (List.mem_of_getElem? hl2)
          obtain ⟨A2, c2, hc2, hcc2, hrd2⟩ := HAT.out _ (HF.out.trans HW.out.2 (fun _ _ q => q)) (i + 1) l2 hl2
          rw [hl64] at hc2 hcc2 hrd2
          have hp2 : (patch (nought 128) 0 l).length = 128 := by rw [HP.out, List.length_append, HL.out.2.1, nought_len]
          have hcp := copy_half (w := w1.drew) (o := 64) (n := 64) (c := c2) HW.out.1 hp2 hrd2 (by omega) (by omega)
          have hov := Blk.over (w := w1.drew) (o := 64) (m := l2) HW.out.1 (by rw [hl64, hp2]; omega)
          have hfs : Fr (fun _ => False) wr (w1.drew.setCells wr.heap.size 64 (cellsB l2)) := Fr.setCells (.inr (Nat.le_refl _)) (HW.out.2.drew)
          have hsec : patch (patch (nought 128) 0 l) 64 l2 = secL ls k := by
            rw [HP.out]
            have := patch_app l (nought 64) l2
            rw [HL.out.2.1, hl64, nought_drop] at this
            rw [this]
            have e := HI.out
            subst e
            simp [secL, HL.out.1, hl2, nought]
          rw [hsec] at hov
          have HL2 := Lib.hid (And.intro hov hfs)
          clear hl2 hl64 hcc2 hrd2 hp2 hov hfs hsec
          have hj0 : (0 : Int) ≤ (i : Int) + 1 := by omega
          have hj1 : (i : Int) + 1 < (n : Int) := by omega
          have hjn : ((i : Int) + 1).toNat = i + 1 := by omega
          go_wp2_with fail
          go_region
          clear hcp hc2 hj0 hj1 hjn
          generalize w1.drew.setCells wr.heap.size 64 (cellsB l2) = w2 at *
          have hsl := secL_len H64.out k
          have hra : w2.rangeAt wr.heap.size 0 (cellsB (secL ls k)) := by
            have := HL2.out.1.range 0 128
            rw [List.drop_zero, List.take_of_length_le (Nat.le_of_eq hsl)] at this
            exact this
          have HR := Lib.hid (And.intro hra hsl)
          have hbig : Hid (k + 1 ≤ 1000000) := Lib.hid (by have := HI.out; omega)
          have hsz : Hid (w.heap.size ≤ (w2.alloc (.cells (cellsB (secL ls k)).toArray 45)).heap.size) := Lib.hid (by have := HF.out.size; have := HL2.out.2.size; simp; omega)
          clear hra hsl
          go_wp2_with (first
            | (refine wpList_load_mid rfl 45 _ rfl wr.heap.size 0 rfl (cellsB (secL ls k)) _ HR.out.1 Tryz.underlying45 rfl (by rw [infoSector, cellsB_len, HR.out.2]) ?_)
            | (refine wpList_build_sec rfl (.tmp 31) rfl HR.out.2 rfl ?_)
            | (refine wpList_append_row rfl (.tmp 30) (.tmp 32) rfl w.heap.size v k ((sectorsL ls).take k).flatten (secL ls k) (own_keep HO.out (HL2.out.2.alloc _) (fun _ _ q => q)) (R := w2.heap.size) (m := 1) (c := 1) (Blk.new w2 _ _) (by rw [HR.out.2]) rfl rfl hbig.out hsz.out ?_; intro v' w3 hown hgr; have HG := Lib.hid (And.intro hown hgr); clear hown hgr))
          refine ⟨⟨k + 1, i + 2, v', rfl, by go_num, Lib.hid (by have := HI.out; omega), by omega, Lib.hid ?_, Lib.hid ((HF.out.trans (HL2.out.2.alloc _) (fun _ _ q => q)).grown HG.out.2 (fun j hj => .inr (HO.out.lt j hj).1))⟩, by simp [intOf]; omega⟩
          rw [sectorsL_take (by have := HI.out; have := HLN.out; omega)]
          exact HG.out.1
        · have hsec : patch (nought 128) 0 l = secL ls k := by
            rw [HP.out]
            have e := HI.out
            subst e
            have hnone : ls[2 * k + 1]? = none := List.getElem?_eq_none (by have := HLN.out; omega)
            simp [secL, HL.out.1, hnone]
          have hbl := HW.out.1
          rw [hsec] at hbl
          have HL2 := Lib.hid (And.intro hbl HW.out.2)
          clear hbl hsec
          have hj1 : ¬ (i : Int) + 1 < (n : Int) := by omega
          have hsl := secL_len H64.out k
          have hra : w1.rangeAt wr.heap.size 0 (cellsB (secL ls k)) := by
            have := HL2.out.1.range 0 128
            rw [List.drop_zero, List.take_of_length_le (Nat.le_of_eq hsl)] at this
            exact this
          have HR := Lib.hid (And.intro hra hsl)
          have hbig : Hid (k + 1 ≤ 1000000) := Lib.hid (by have := HI.out; omega)
          have hsz : Hid (w.heap.size ≤ (w1.alloc (.cells (cellsB (secL ls k)).toArray 45)).heap.size) := Lib.hid (by have := HF.out.size; have := HL2.out.2.size; simp; omega)
          clear hra hsl
          go_wp2_with (first
            | (refine wpList_load_mid rfl 45 _ rfl wr.heap.size 0 rfl (cellsB (secL ls k)) _ HR.out.1 Tryz.underlying45 rfl (by rw [infoSector, cellsB_len, HR.out.2]) ?_)
            | (refine wpList_build_sec rfl (.tmp 31) rfl HR.out.2 rfl ?_)
            | (refine wpList_append_row rfl (.tmp 30) (.tmp 32) rfl w.heap.size v k ((sectorsL ls).take k).flatten (secL ls k) (own_keep HO.out (HL2.out.2.alloc _) (fun _ _ q => q)) (R := w1.heap.size) (m := 1) (c := 1) (Blk.new w1 _ _) (by rw [HR.out.2]) rfl rfl hbig.out hsz.out ?_; intro v' w3 hown hgr; have HG := Lib.hid (And.intro hown hgr); clear hown hgr))
          refine ⟨⟨k + 1, i + 2, v', rfl, by go_num, Lib.hid (by have := HI.out; omega), by omega, Lib.hid ?_, Lib.hid ((HF.out.trans (HL2.out.2.alloc _) (fun _ _ q => q)).grown HG.out.2 (fun j hj => .inr (HO.out.lt j hj).1))⟩, by simp [intOf]; omega⟩
          rw [sectorsL_take (by have := HI.out; have := HLN.out; omega)]
          exact HG.out.1
      · have he : k = (n + 1) / 2 := by have := HI.out; omega
        subst he
        have ho := HO.out
        rw [List.take_of_length_le (by rw [sectorsL_len, ← HLN.out]; exact Nat.le_refl _)] at ho
        have HO2 := Lib.hid ho
        clear ho HO
        have hge : ¬ (i : Int) < (n : Int) := by omega
        clear hlt
        go_wp2_with fail
        go_ret
        exact ⟨v, rfl, HO2.out, HF.out⟩
end Go.Proofs.YtjdbgojnpnlblaaGreat

namespace Go.Proofs.YtjdbgojnpnlblaaGreat
open Go.RowKit

section
variable {P : Program} {ops : Array Oper} {Q : Exit → Act → World → Prop} {md : Region.Mode} {S : World → Prop}

end
end Go.Proofs.YtjdbgojnpnlblaaGreat

namespace Go.Proofs.YtjdbgojnpnlblaaGreat
open Go.RowKit

set_option maxRecDepth 100000 in
theorem sectorsL_two (a b : List UInt8) (r : List (List UInt8)) : sectorsL (a :: b :: r) = (a ++ b) :: sectorsL r := by
  unfold sectorsL
  have e : ((a :: b :: r).length + 1) / 2 = (r.length + 1) / 2 + 1 := by simp only [List.length_cons]; omega
  rw [e, List.range_succ_eq_map, List.map_cons, List.map_map]
  refine congr (congrArg List.cons ?_) ?_
  · simp [secL]
  · apply List.map_congr_left
    intro i _
    have e1 : 2 * (i + 1) = 2 * i + 1 + 1 := by omega
    simp only [Function.comp_apply, secL, Nat.succ_eq_add_one, e1, List.getElem?_cons_succ]
set_option maxRecDepth 100000 in
theorem sectorsL_one (a : List UInt8) : sectorsL [a] = [a ++ nought 64] := by
  simp [sectorsL, secL, List.range_succ]
set_option maxRecDepth 100000 in
theorem sectors_flat : ∀ (ls : List (List UInt8)), All64 ls → (sectorsL ls).flatten = ls.flatten ++ nought ((ls.length + 1) / 2 * 128 - 64 * ls.length)
  | [], _ => by simp [sectorsL, nought]
  | [a], _ => by
    rw [sectorsL_one]
    simp
  | a :: b :: r, h => by
    have ih := sectors_flat r (fun l hl => h l (by simp [hl]))
    rw [sectorsL_two, List.flatten_cons, ih, List.flatten_cons, List.flatten_cons]
    have e : ((a :: b :: r).length + 1) / 2 * 128 - 64 * (a :: b :: r).length = (r.length + 1) / 2 * 128 - 64 * r.length := by simp only [List.length_cons]; omega
    rw [e]
    simp
set_option maxRecDepth 100000 in
theorem halves64 (c n : Nat) (b : List UInt8) : All64 (halvesL c n b) := fun l hl => by
  obtain ⟨i, hi, rfl⟩ := List.mem_map.1 hl
  exact halfL_len (List.mem_range.1 hi)
set_option maxRecDepth 100000 in
theorem row_sectors (c n : Nat) (b : List UInt8) : (sectorsL (halvesL c n b)).flatten = rowB c n b := by
  rw [sectors_flat _ (halves64 c n b), rowB_tags, halvesL_len]
  rfl
set_option maxRecDepth 100000 in
/-- Sectors of one's own, in memory. -/
theorem secV_own1 {w : World} {base N : Nat} {v : Value} {l : List UInt8} (h : w.ownsRow base 45 128 v N (cellsB l)) (hl : l.length = N * 128) : SecV w v (secs l N) := by
  have h0 := h
  rcases h.2 with ⟨rfl, e⟩ | ⟨g, cap, cur, rfl, _, _, hn, hc, _⟩
  · refine ⟨none, 0, by rw [secs_len, e], by rw [secs_len, e]; exact Nat.le_refl _, Nat.zero_le _, fun q => ?_⟩
    rw [secs_len, e] at q
    omega
  · refine ⟨_, cap, by rw [secs_len], by rw [secs_len]; exact hn, hc, fun _ => ⟨g, 0, rfl, fun i s hi => ?_⟩⟩
    have hlt : i < N := by
      have := (List.getElem?_eq_some_iff.1 hi).1
      rwa [secs_len] at this
    rw [secs_at _ hlt] at hi
    injection hi with hi
    subst hi
    refine ⟨by rw [List.length_take, List.length_drop]; omega, fun j u hu => ?_⟩
    have hj : j < 128 := by
      have := (List.getElem?_eq_some_iff.1 hu).1
      rw [cellsB_len, List.length_take] at this
      omega
    have := h0.cells (g := g) rfl (i * 128 + j) u (by
      rw [← hu]
      unfold cellsB
      rw [List.getElem?_map, List.getElem?_map, List.getElem?_take, if_pos hj, List.getElem?_drop]
      have e : 128 * i + j = i * 128 + j := by omega
      rw [e])
    have e : 0 + i * 128 + j = i * 128 + j := by omega
    rw [e]
    rw [Addr.add_lit, Nat.zero_add] at this
    exact this

set_option maxRecDepth 100000 in
theorem rrow_any {w : World} {A : Option Addr} {k cb : Nat} {b : List UInt8} (hr : Rd w A k b) (hk : k ≤ 32768) (c n : Nat) (hc : c ≤ 18446744073709551615) (hn : n ≤ 9223372036854775807) :
    Calls Tryz.prog 43 #[.agg #[.int .u64 c, .int .i64 n], .slice A k cb] w fun e w' => ∃ v, e = .returned v ∧ SecV w' v (secs (rowB c n b) ((many k + 1) / 2)) ∧ Fr (fun _ => False) w w' := by
  have hl := hr.len
  subst hl
  have HF0 : Hid (Fr (fun _ => False) w (w.alloc (.cells #[.int .u64 (c : Nat), .int .i64 (n : Nat)] 91))) := Lib.hid ((Fr.refl _ w).alloc _)
  have HH := Lib.hid (rhalves_any (cb := cb) (hr.keep HF0.out (fun _ _ q => q)) hk c n hc hn)
  clear hr hc hn
  go_enter Tryz.func43, Tryz.ntmps43
  go_wp2_with fail
  (with_reducible refine HH.out.mono ?_)
  rintro e w1 ⟨v1, rfl, hl1, hf1⟩
  have HF1 := Lib.hid (HF0.out.trans hf1 (fun _ _ q => q))
  have HS := Lib.hid (rsectors_any hl1 (halves64 c n b) (by rw [halvesL_len]; unfold many; omega))
  clear hl1 hf1 HH
  go_wp2_with fail
  (with_reducible refine HS.out.mono ?_)
  rintro e w2 ⟨v2, rfl, ho, hf2⟩
  rw [row_sectors, halvesL_len] at ho
  have HV := Lib.hid (secV_own1 ho (rowB_len c n b))
  have HF2 := Lib.hid (HF1.out.trans hf2 (fun _ _ q => q))
  clear ho hf2 HS
  go_wp2_with fail
  go_ret
  exact ⟨_, rfl, HV.out, HF2.out⟩

/-- What Split answers, whatever it is asked. -/
def SplitsTo (w' : World) (c : Nat) (n : Int) (b : List UInt8) (A8 : Option Addr) (n8 c8 : Nat) (code : Int) : Prop :=
  (mayT c n = false ∧ n8 = 0 ∧ code = 2) ∨ (mayT c n = true ∧ 32768 < b.length ∧ n8 = 0 ∧ code = 3) ∨
    (mayT c n = true ∧ b.length ≤ 32768 ∧ n8 = (many b.length + 1) / 2 ∧ code = 0 ∧ SecV w' (.slice A8 n8 c8) (secs (rowB c n.toNat b) n8))
set_option maxRecDepth 100000 in
theorem split_joint {w : World} {A : Option Addr} {k cb : Nat} {b : List UInt8} (hr : Rd w A k b) (c : Nat) (n : Int) :
    Calls Tryz.prog 68 #[.agg #[.int .u64 c, .int .i64 n], .slice A k cb] w fun e w' => ∃ A8 n8 c8 code, e = .returned (.tuple #[.slice A8 n8 c8, .int .i64 code]) ∧ SplitsTo w' c n b A8 n8 c8 code ∧ Fr (fun _ => False) w w' := by
  have hl := hr.len
  subst hl
  cases hm : mayT c n with
  | false => exact (split_bad w c n hm A _ cb).mono fun e w' ⟨he, hf⟩ => ⟨none, 0, 0, 2, he, .inl ⟨hm, rfl, rfl⟩, hf⟩
  | true =>
    by_cases hk : 32768 < b.length
    · exact (split_long w c n hm A _ cb hk).mono fun e w' ⟨he, hf⟩ => ⟨none, 0, 0, 3, he, .inr (.inl ⟨hm, hk, rfl, rfl⟩), hf⟩
    · have hn : n = (n.toNat : Int) := by
        unfold mayT at hm
        simp at hm
        omega
      have h1 := split_any (cb := cb) hr (by omega) c n.toNat (by rw [← hn]; exact hm)
      rw [← hn] at h1
      refine h1.mono fun e w' ⟨R, he, hR, hb, hf⟩ => ⟨_, _, _, 0, he, .inr (.inr ⟨hm, by omega, rfl, rfl, ?_⟩), hf⟩
      refine secV_own1 (base := 0) (own_of_blk hb (Nat.zero_le _) (by rw [cellsB_len, rowB_len]) ?_) (rowB_len _ _ _)
      unfold many
      simp only [maxLen]
      omega
end Go.Proofs.YtjdbgojnpnlblaaGreat

