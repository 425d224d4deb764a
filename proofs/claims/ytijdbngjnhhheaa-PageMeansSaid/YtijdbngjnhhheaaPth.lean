/- Pages as data: the bytes of what a page has, how they are read and written. It speaks of no program. -/
import Derived.Test.YtijdbngjnhhheaaPby
namespace Go.Proofs.Ytijdbngjnhhheaa
open Go.RowKit

/-! Lists with others laid over them; parts of lists. -/
def sub (l : List UInt8) (o k : Nat) : List UInt8 := (l.drop o).take k
theorem sub_len {l : List UInt8} {o k : Nat} (h : o + k ≤ l.length) : (sub l o k).length = k := by simp [sub]; omega
theorem sub_mid {a m b : List UInt8} {o k : Nat} (ho : a.length = o) (hk : m.length = k) : sub (a ++ (m ++ b)) o k = m := by
  subst ho hk
  simp [sub]
theorem sub_left {a b : List UInt8} {o k : Nat} (h : o + k ≤ a.length) : sub (a ++ b) o k = sub a o k := by
  unfold sub
  rw [List.drop_append, List.take_append, List.length_drop]
  have e : k - (a.length - o) = 0 := by omega
  rw [e]; simp
theorem sub_right {a b : List UInt8} {o k : Nat} (h : a.length ≤ o) : sub (a ++ b) o k = sub b (o - a.length) k := by
  unfold sub
  rw [List.drop_append, List.drop_eq_nil_of_le h, List.nil_append]
theorem sub_sub {l : List UInt8} {o k p q : Nat} (h : p + q ≤ k) : sub (sub l o k) p q = sub l (o + p) q := by
  unfold sub
  rw [List.drop_take, List.drop_drop, List.take_take]
  have e : min q (k - p) = q := by omega
  rw [e]
theorem patch_left {a b m : List UInt8} {o : Nat} (h : o + m.length ≤ a.length) : patch (a ++ b) o m = patch a o m ++ b := by
  unfold patch
  rw [List.take_append_of_le_length (by omega), List.drop_append_of_le_length h]
  simp
theorem patch_right {a b m : List UInt8} {o : Nat} (h : a.length ≤ o) : patch (a ++ b) o m = a ++ patch b (o - a.length) m := by
  unfold patch
  have e : o + m.length - a.length = o - a.length + m.length := by omega
  rw [List.take_append, List.drop_append, List.take_of_length_le h, List.drop_eq_nil_of_le (by omega), e]
  simp
theorem patch_mid {a x b m : List UInt8} {o : Nat} (ho : a.length = o) (hx : x.length = m.length) : patch (a ++ (x ++ b)) o m = a ++ (m ++ b) := by
  subst ho
  rw [patch_right (Nat.le_refl _), Nat.sub_self]
  unfold patch
  simp [← hx]
theorem patch_patch {l m q : List UInt8} {o p : Nat} (hp : p = o + m.length) (h : p + q.length ≤ l.length) : patch (patch l o m) p q = patch l o (m ++ q) := by
  subst hp
  unfold patch
  have e1 : (l.take o).length = o := by rw [List.length_take]; omega
  rw [← List.append_assoc (l.take o) m, List.take_append_of_le_length (by simp; omega), List.take_of_length_le (by simp; omega)]
  have e2 : (l.take o ++ m).length = o + m.length := by simp; omega
  have e3 : o + m.length + q.length - (l.take o ++ m).length = q.length := by rw [e2]; omega
  rw [List.drop_append, List.drop_eq_nil_of_le (by omega), e3, List.drop_drop, List.length_append]
  simp [Nat.add_assoc]

abbrev Rec := Option (List UInt8)
def rl (o : Rec) : Nat := (o.getD []).length
def tot : List Rec → Nat
  | [] => 0
  | o :: s => rl o + tot s
def ent (e : Nat) : Rec → List UInt8
  | none => nought 4
  | some b => be (e - b.length) 2 ++ be b.length 2
def table : Nat → List Rec → List UInt8
  | _, [] => []
  | e, o :: s => ent e o ++ table (e - rl o) s
def tail : List Rec → List UInt8
  | [] => []
  | o :: s => tail s ++ o.getD []
theorem ent_len (e : Nat) (o : Rec) : (ent e o).length = 4 := by cases o <;> simp [ent, nought, be_len]
theorem table_len : ∀ (e : Nat) (s : List Rec), (table e s).length = 4 * s.length
  | _, [] => rfl
  | e, o :: s => by simp [table, ent_len, table_len]; omega
theorem tail_len : ∀ s : List Rec, (tail s).length = tot s
  | [] => rfl
  | o :: s => by simp [tail, tot, tail_len s, rl]; omega
theorem tot_app : ∀ s t : List Rec, tot (s ++ t) = tot s + tot t
  | [], t => by simp [tot]
  | o :: s, t => by simp [tot, tot_app s t]; omega
theorem table_app : ∀ (s t : List Rec) (e : Nat), table e (s ++ t) = table e s ++ table (e - tot s) t
  | [], t, e => by simp [table, tot]
  | o :: s, t, e => by simp [table, tot, table_app s t, Nat.sub_sub]
theorem tail_app : ∀ s t : List Rec, tail (s ++ t) = tail t ++ tail s
  | [], t => by simp [tail]
  | o :: s, t => by simp [tail, tail_app s t]
theorem tot_take_le (s : List Rec) (i : Nat) : tot (s.take i) ≤ tot s := by
  have := tot_app (s.take i) (s.drop i)
  rw [List.take_append_drop] at this
  omega
theorem take_snoc {s : List Rec} {i : Nat} {o : Rec} (h : s[i]? = some o) : s.take (i + 1) = s.take i ++ [o] := by
  rw [List.take_add_one, h]; rfl
theorem tot_snoc {s : List Rec} {i : Nat} {o : Rec} (h : s[i]? = some o) : tot (s.take (i + 1)) = tot (s.take i) + rl o := by
  rw [take_snoc h, tot_app]; simp [tot]
/-- A page with a head h and the slots s; so it stands, too, while it is made. -/
def part (h : List UInt8) (s : List Rec) : List UInt8 := h ++ (table 512 s ++ (nought (500 - 4 * s.length - tot s) ++ tail s))
theorem part_len {h : List UInt8} {s : List Rec} (hh : h.length = 12) (hs : 12 + 4 * s.length + tot s ≤ 512) : (part h s).length = 512 := by
  simp [part, table_len, tail_len, nought_len, hh]; omega
theorem part_nil (h : List UInt8) : part h [] = h ++ nought 500 := by simp [part, table, tail, tot]
theorem part_head {h m : List UInt8} {s : List Rec} {o : Nat} (hm : o + m.length ≤ h.length) : patch (part h s) o m = part (patch h o m) s := by
  unfold part
  exact patch_left hm
theorem part_none {h : List UInt8} {s : List Rec} (hs : 16 + 4 * s.length + tot s ≤ 512) : part h (s ++ [none]) = part h s := by
  unfold part
  rw [table_app, tail_app, tot_app]
  have e : nought (500 - 4 * s.length - tot s) = nought 4 ++ nought (500 - 4 * (s ++ [(none : Rec)]).length - (tot s + tot [none])) := by
    simp only [nought, List.replicate_append_replicate, tot, rl]
    congr 1
    simp
    omega
  rw [e]
  simp [table, tail, ent]
theorem nought_split {n a b : Nat} (h : a + b = n) : nought n = nought a ++ nought b := by
  simp only [nought, List.replicate_append_replicate, h]
/-- The record is laid, k bytes of it. -/
theorem part_lay {h b : List UInt8} {s : List Rec} (hh : h.length = 12) (hs : 12 + 4 * s.length + tot s + b.length ≤ 512) :
    patch (part h s) (512 - tot s - b.length) b = h ++ (table 512 s ++ (nought (500 - 4 * s.length - tot s - b.length) ++ (b ++ tail s))) := by
  unfold part
  rw [nought_split (a := 500 - 4 * s.length - tot s - b.length) (b := b.length) (n := 500 - 4 * s.length - tot s) (by omega)]
  have e : h ++ (table 512 s ++ (nought (500 - 4 * s.length - tot s - b.length) ++ nought b.length ++ tail s)) = (h ++ (table 512 s ++ nought (500 - 4 * s.length - tot s - b.length))) ++ (nought b.length ++ tail s) := by simp
  rw [e, patch_mid (by simp [hh, table_len, nought_len]; omega) (nought_len _)]
  simp
theorem part_some {h b : List UInt8} {s : List Rec} (hh : h.length = 12) (hs : 16 + 4 * s.length + tot s + b.length ≤ 512) :
    patch (patch (part h s) (512 - tot s - b.length) b) (12 + 4 * s.length) (be (512 - tot s - b.length) 2 ++ be b.length 2) = part h (s ++ [some b]) := by
  rw [part_lay hh (by omega)]
  rw [nought_split (a := 4) (b := 496 - 4 * s.length - tot s - b.length) (n := 500 - 4 * s.length - tot s - b.length) (by omega)]
  have e : h ++ (table 512 s ++ (nought 4 ++ nought (496 - 4 * s.length - tot s - b.length) ++ (b ++ tail s))) = (h ++ table 512 s) ++ (nought 4 ++ (nought (496 - 4 * s.length - tot s - b.length) ++ (b ++ tail s))) := by simp
  rw [e, patch_mid (by simp [hh, table_len]) (by simp [be_len, nought_len])]
  unfold part
  rw [table_app, tail_app, tot_app]
  have e2 : 500 - 4 * (s ++ [some b]).length - (tot s + tot [some b]) = 496 - 4 * s.length - tot s - b.length := by
    simp [tot, rl]; omega
  rw [e2]
  simp [table, tail, ent]
theorem part_ent {h : List UInt8} {s : List Rec} (hh : h.length = 12) {i : Nat} {o : Rec} (hi : s[i]? = some o) : sub (part h s) (12 + 4 * i) 4 = ent (512 - tot (s.take i)) o := by
  have hlt := (List.getElem?_eq_some_iff.1 hi).1
  have e : table 512 s = table 512 (s.take i) ++ (ent (512 - tot (s.take i)) o ++ table (512 - tot (s.take i) - rl o) (s.drop (i + 1))) := by
    have h1 : s = s.take i ++ o :: s.drop (i + 1) := by
      rw [← (List.getElem?_eq_some_iff.1 hi).2, ← List.drop_eq_getElem_cons hlt, List.take_append_drop]
    have h2 := table_app (s.take i) (o :: s.drop (i + 1)) 512
    rw [← h1] at h2
    rw [h2]
    simp [table]
  unfold part
  rw [e]
  have e2 : h ++ (table 512 (s.take i) ++ (ent (512 - tot (s.take i)) o ++ table (512 - tot (s.take i) - rl o) (s.drop (i + 1))) ++ (nought (500 - 4 * s.length - tot s) ++ tail s)) =
    (h ++ table 512 (s.take i)) ++ (ent (512 - tot (s.take i)) o ++ (table (512 - tot (s.take i) - rl o) (s.drop (i + 1)) ++ (nought (500 - 4 * s.length - tot s) ++ tail s))) := by simp
  rw [e2]
  refine sub_mid ?_ (ent_len _ _)
  simp [hh, table_len]
  omega
theorem part_gap {h : List UInt8} {s : List Rec} (hh : h.length = 12) {k : Nat} (hk : k = 500 - 4 * s.length - tot s) : sub (part h s) (12 + 4 * s.length) k = nought k := by
  subst hk
  unfold part
  rw [← List.append_assoc]
  exact sub_mid (by simp [hh, table_len]) (nought_len _)
theorem part_rec {h b : List UInt8} {s : List Rec} (hh : h.length = 12) (hs : 12 + 4 * s.length + tot s ≤ 512) {i : Nat} (hi : s[i]? = some (some b)) : sub (part h s) (512 - tot (s.take (i + 1))) b.length = b := by
  have hlt := (List.getElem?_eq_some_iff.1 hi).1
  have h0 := tot_take_le s (i + 1)
  have h3 := tot_snoc hi
  simp only [rl, Option.getD_some] at h3
  have e : tail s = tail (s.drop (i + 1)) ++ (b ++ tail (s.take i)) := by
    have h2 := tail_app (s.take (i + 1)) (s.drop (i + 1))
    rw [List.take_append_drop, take_snoc hi, tail_app] at h2
    rw [h2]
    simp [tail]
  have h4 := tot_app (s.take (i + 1)) (s.drop (i + 1))
  rw [List.take_append_drop] at h4
  unfold part
  rw [e]
  have e2 : h ++ (table 512 s ++ (nought (500 - 4 * s.length - tot s) ++ (tail (s.drop (i + 1)) ++ (b ++ tail (s.take i))))) = (h ++ (table 512 s ++ (nought (500 - 4 * s.length - tot s) ++ tail (s.drop (i + 1))))) ++ (b ++ tail (s.take i)) := by simp
  rw [e2]
  refine sub_mid ?_ rfl
  simp [hh, table_len, nought_len, tail_len]
  omega
theorem part_sub {h : List UInt8} {s : List Rec} {o k : Nat} (hk : o + k ≤ h.length) : sub (part h s) o k = sub h o k := by
  unfold part
  exact sub_left hk

/-- What a page has. -/
structure PD where
  kind : Nat
  next : Nat
  s : List Rec
def PD.size (x : PD) : Nat := 12 + 4 * x.s.length + tot x.s
def hd (k m e n : Nat) : List UInt8 := [UInt8.ofNat k, 0] ++ (be m 2 ++ (be e 2 ++ ([0, 0] ++ be n 4)))
theorem hd_len (k m e n : Nat) : (hd k m e n).length = 12 := by simp [hd, be_len]
def PD.bytes (x : PD) : List UInt8 := part (hd x.kind x.s.length (512 - tot x.s) x.next) x.s
structure PD.Ok (x : PD) : Prop where
  k : x.kind ≤ 4
  n : x.next ≤ 2147483647
  sz : 12 + 4 * x.s.length + tot x.s ≤ 512
  rs : ∀ b, some b ∈ x.s → b.length ≤ 400
  ls : ∀ i, x.s.length = i + 1 → ∃ b, x.s[i]? = some (some b)
section
variable {x : PD}
theorem PD.Ok.len (k : x.Ok) : x.bytes.length = 512 := part_len (hd_len _ _ _ _) k.sz
theorem PD.Ok.many (k : x.Ok) : x.s.length ≤ 125 := by have := k.sz; omega
theorem bytes_kind (x : PD) : ∃ t, x.bytes = UInt8.ofNat x.kind :: t := ⟨_, rfl⟩
theorem bytes_many (k : x.Ok) : numOf (sub x.bytes 2 2) = x.s.length := by
  unfold PD.bytes
  rw [part_sub (by rw [hd_len]; omega)]
  unfold hd
  rw [sub_mid (o := 2) (k := 2) rfl (be_len _ _), numOf_be (by have := k.sz; omega)]
theorem bytes_begin (k : x.Ok) : numOf (sub x.bytes 4 2) = 512 - tot x.s := by
  unfold PD.bytes
  rw [part_sub (by rw [hd_len]; omega)]
  unfold hd
  rw [← List.append_assoc, sub_mid (by simp [be_len]) (be_len _ _), numOf_be (by omega)]
theorem bytes_next (k : x.Ok) : numOf (sub x.bytes 8 4) = x.next := by
  unfold PD.bytes
  rw [part_sub (by rw [hd_len]; omega)]
  unfold hd
  have e : [UInt8.ofNat x.kind, 0] ++ (be x.s.length 2 ++ (be (512 - tot x.s) 2 ++ ([0, 0] ++ be x.next 4))) = ([UInt8.ofNat x.kind, 0] ++ (be x.s.length 2 ++ (be (512 - tot x.s) 2 ++ [0, 0]))) ++ (be x.next 4 ++ []) := by simp
  rw [e, sub_mid (by simp [be_len]) (be_len _ _), numOf_be (by have := k.n; omega)]
theorem bytes_z1 (x : PD) : sub x.bytes 1 1 = nought 1 := by
  unfold PD.bytes
  rw [part_sub (by rw [hd_len]; omega)]
  rfl
theorem bytes_z2 (x : PD) : sub x.bytes 6 2 = nought 2 := by
  unfold PD.bytes
  rw [part_sub (by rw [hd_len]; omega)]
  unfold hd
  have e : [UInt8.ofNat x.kind, 0] ++ (be x.s.length 2 ++ (be (512 - tot x.s) 2 ++ ([0, 0] ++ be x.next 4))) = ([UInt8.ofNat x.kind, 0] ++ (be x.s.length 2 ++ be (512 - tot x.s) 2)) ++ ([0, 0] ++ be x.next 4) := by simp
  rw [e, sub_mid (o := 6) (k := 2) (by simp [be_len]) rfl]
  rfl
theorem bytes_gap (x : PD) : sub x.bytes (12 + 4 * x.s.length) (500 - 4 * x.s.length - tot x.s) = nought (500 - 4 * x.s.length - tot x.s) := part_gap (hd_len _ _ _ _) rfl
/-- What stands in a slot: where its record begins, how long it is. -/
def spanOf (s : List Rec) (i : Nat) : Nat × Nat := match s[i]? with
  | some (some b) => (512 - tot (s.take (i + 1)), b.length)
  | _ => (0, 0)
theorem bytes_span {i : Nat} (k : x.Ok) (hi : i < x.s.length) : numOf (sub x.bytes (12 + 4 * i) 2) = (spanOf x.s i).1 ∧ numOf (sub x.bytes (12 + 4 * i + 2) 2) = (spanOf x.s i).2 := by
  obtain ⟨o, ho⟩ : ∃ o, x.s[i]? = some o := ⟨_, List.getElem?_eq_getElem hi⟩
  have h1 : sub x.bytes (12 + 4 * i) 2 = sub (sub x.bytes (12 + 4 * i) 4) 0 2 := by rw [sub_sub (by omega)]; rfl
  have h2 : sub x.bytes (12 + 4 * i + 2) 2 = sub (sub x.bytes (12 + 4 * i) 4) 2 2 := by rw [sub_sub (by omega)]
  have h3 : sub x.bytes (12 + 4 * i) 4 = ent (512 - tot (x.s.take i)) o := part_ent (hd_len _ _ _ _) ho
  rw [h1, h2, h3]
  have h5 := tot_snoc ho
  have h6 := tot_take_le x.s (i + 1)
  have h7 := k.sz
  cases o with
  | none => simp [ent, spanOf, ho, nought, sub, numOf, List.replicate]
  | some b =>
    simp only [rl, Option.getD_some] at h5
    simp only [spanOf, ho, ent]
    have e1 : sub (be (512 - tot (x.s.take i) - b.length) 2 ++ be b.length 2) 0 2 = be (512 - tot (x.s.take i) - b.length) 2 := by
      have := sub_mid (a := []) (m := be (512 - tot (x.s.take i) - b.length) 2) (b := be b.length 2) (o := 0) (k := 2) rfl (be_len _ _)
      simpa using this
    have e2 : sub (be (512 - tot (x.s.take i) - b.length) 2 ++ be b.length 2) 2 2 = be b.length 2 := by
      have := sub_mid (a := be (512 - tot (x.s.take i) - b.length) 2) (m := be b.length 2) (b := []) (o := 2) (k := 2) (be_len _ _) (be_len _ _)
      simpa using this
    rw [e1, e2, numOf_be (by omega), numOf_be (by omega), h5]
    exact ⟨by omega, rfl⟩
theorem bytes_rec {i : Nat} {b : List UInt8} (k : x.Ok) (hi : x.s[i]? = some (some b)) : sub x.bytes (512 - tot (x.s.take (i + 1))) b.length = b := part_rec (hd_len _ _ _ _) k.sz hi
end
/-- The first slot that is empty; else the one behind the last one. -/
def firstE : List Rec → Nat
  | [] => 0
  | none :: _ => 0
  | some _ :: s => firstE s + 1
theorem firstE_le : ∀ s : List Rec, firstE s ≤ s.length
  | [] => by simp [firstE]
  | none :: _ => by simp [firstE]
  | some _ :: s => by have := firstE_le s; simp [firstE]; omega
theorem firstE_at : ∀ {s : List Rec} {k : Nat}, (∀ j, j < k → ∃ b, s[j]? = some (some b)) → (s[k]? = some none ∨ k = s.length) → firstE s = k
  | [], k, h, h0 => by
    rcases h0 with h0 | h0
    · simp at h0
    · simpa [firstE] using h0.symm
  | none :: s, 0, h, h0 => rfl
  | none :: s, k + 1, h, h0 => by
    obtain ⟨b, hb⟩ := h 0 (by omega)
    simp at hb
  | some c :: s, 0, h, h0 => by simp at h0
  | some c :: s, k + 1, h, h0 => by
    have := firstE_at (s := s) (k := k) (fun j hj => by
      have := h (j + 1) (by omega)
      simpa using this) (by simpa using h0)
    simp [firstE, this]
theorem firstE_lt : ∀ (s : List Rec) (j : Nat), j < firstE s → ∃ b, s[j]? = some (some b)
  | [], j, h => by simp [firstE] at h
  | none :: _, j, h => by simp [firstE] at h
  | some c :: s, 0, h => ⟨c, rfl⟩
  | some c :: s, j + 1, h => by
    have := firstE_lt s j (by simp [firstE] at h; omega)
    simpa using this
theorem firstE_is (s : List Rec) : s[firstE s]? = some none ∨ firstE s = s.length := by
  induction s with
  | nil => right; rfl
  | cons o s ih =>
    cases o with
    | none => left; rfl
    | some c => simpa [firstE] using ih
def PD.room (x : PD) : Int := max (-1) (min ((512 : Int) - ((12 + 4 * x.s.length + tot x.s : Nat) : Int) - (if firstE x.s = x.s.length then 4 else 0)) 400)
end Go.Proofs.Ytijdbngjnhhheaa
