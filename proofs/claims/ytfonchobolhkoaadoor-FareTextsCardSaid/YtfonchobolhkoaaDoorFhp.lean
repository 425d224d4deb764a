/- Heaps, as container/heap sifts them: pure. -/
import Derived.Test.YtfonchobolhkoaaDoorFgr
namespace Go.Proofs.YtfonchobolhkoaaDoor

section
variable {α : Type}
/-- What a Less must be for a heap: asymmetric, and its denial transitive. -/
structure LessOk (lt : α → α → Bool) : Prop where
  asym : ∀ a b, lt a b = true → lt b a = false
  trans : ∀ a b c, lt a b = false → lt b c = false → lt a c = false
variable {lt : α → α → Bool}
theorem LessOk.irrefl (h : LessOk lt) (a : α) : lt a a = false := by
  cases q : lt a a with
  | false => rfl
  | true => exact (h.asym a a q).symm.trans q |>.symm ▸ rfl
/-- A heap of the first n places. -/
def HpF (lt : α → α → Bool) (f : Nat → α) (n : Nat) : Prop := ∀ k, 0 < k → k < n → lt (f k) (f ((k - 1) / 2)) = false
def swF (f : Nat → α) (i j : Nat) : Nat → α := fun k => if k = i then f j else if k = j then f i else f k
/-- A heap of those places whose parents stand at c or behind it. -/
def HpG (lt : α → α → Bool) (f : Nat → α) (n c : Nat) : Prop := ∀ k, 0 < k → k < n → c ≤ (k - 1) / 2 → lt (f k) (f ((k - 1) / 2)) = false
theorem HpG.all {f : Nat → α} {n : Nat} (h : HpG lt f n 0) : HpF lt f n := fun k h0 hk => h k h0 hk (Nat.zero_le _)
theorem HpF.of {f : Nat → α} {n : Nat} (h : HpF lt f n) (c : Nat) : HpG lt f n c := fun k h0 hk _ => h k h0 hk
/-- So, but for what stands beneath place i. -/
def DnF (lt : α → α → Bool) (f : Nat → α) (n c i : Nat) : Prop := (∀ k, 0 < k → k < n → c ≤ (k - 1) / 2 → (k - 1) / 2 ≠ i → lt (f k) (f ((k - 1) / 2)) = false) ∧ ∀ k, 0 < k → k < n → (k - 1) / 2 = i → 0 < i → c ≤ (i - 1) / 2 → lt (f k) (f ((i - 1) / 2)) = false
theorem HpG.down {f : Nat → α} {n i : Nat} (h : HpG lt f n (i + 1)) : DnF lt f n i i := ⟨fun k h0 hk hc hne => h k h0 hk (by omega), fun k _ _ _ hi hc => absurd hc (by omega)⟩
/-- A heap but for what stands above place j. -/
def UpF (lt : α → α → Bool) (f : Nat → α) (n j : Nat) : Prop := (∀ k, 0 < k → k < n → k ≠ j → lt (f k) (f ((k - 1) / 2)) = false) ∧ ∀ k, 0 < k → k < n → (k - 1) / 2 = j → 0 < j → lt (f k) (f ((j - 1) / 2)) = false
theorem HpF.root (h : LessOk lt) {f : Nat → α} {n : Nat} (hp : HpF lt f n) : ∀ k, k < n → lt (f k) (f 0) = false := by
  intro k
  induction k using Nat.strongRecOn with
  | _ k ih =>
    intro hk
    by_cases h0 : k = 0
    · rw [h0]; exact h.irrefl _
    · exact h.trans _ _ _ (hp k (by omega) hk) (ih ((k - 1) / 2) (by omega) (by omega))
/-- Beneath i nothing is less: done. -/
theorem DnF.stop {f : Nat → α} {n c i : Nat} (d : DnF lt f n c i) (hs : ∀ k, 0 < k → k < n → (k - 1) / 2 = i → lt (f k) (f i) = false) : HpG lt f n c := by
  intro k h0 hk hc
  by_cases q : (k - 1) / 2 = i
  · rw [q]; exact hs k h0 hk q
  · exact d.1 k h0 hk hc q
/-- The lesser child j goes up. -/
theorem DnF.step (h : LessOk lt) {f : Nat → α} {n c i j : Nat} (d : DnF lt f n c i) (hci : c ≤ i) (hj0 : 0 < j) (hj : j < n) (hp : (j - 1) / 2 = i) (hlt : lt (f j) (f i) = true)
    (hs : ∀ k, 0 < k → k < n → (k - 1) / 2 = i → lt (f k) (f j) = false) : DnF lt (swF f i j) n c j := by
  have hij : i ≠ j := by omega
  have e1 : ∀ k, k ≠ i → k ≠ j → swF f i j k = f k := fun k a b => by simp [swF, a, b]
  have e2 : swF f i j i = f j := by simp [swF]
  have e3 : swF f i j j = f i := by simp [swF, hij.symm]
  refine ⟨fun k h0 hk hc hne => ?_, fun k h0 hk hpk _ _ => ?_⟩
  · by_cases hpi : (k - 1) / 2 = i
    · rw [hpi, e2]
      by_cases hkj : k = j
      · rw [hkj, e3]; exact h.asym _ _ hlt
      · rw [e1 k (by omega) hkj]; exact hs k h0 hk hpi
    · rw [e1 _ hpi hne]
      by_cases hki : k = i
      · rw [hki, e2]
        rw [hki] at h0 hc
        exact d.2 j hj0 hj hp h0 hc
      · by_cases hkj : k = j
        · exact absurd (hkj ▸ hp) hpi
        · rw [e1 k hki hkj]; exact d.1 k h0 hk hc hpi
  · rw [hp, e2, e1 k (by omega) (by omega)]
    have := d.1 k h0 hk (by omega) (by omega)
    rw [hpk] at this
    exact this
/-- Above j stands nothing greater: done. -/
theorem UpF.stop {f : Nat → α} {n j : Nat} (d : UpF lt f n j) (hs : 0 < j → lt (f j) (f ((j - 1) / 2)) = false) : HpF lt f n := by
  intro k h0 hk
  by_cases q : k = j
  · rw [q]; exact hs (by omega)
  · exact d.1 k h0 hk q
theorem UpF.step (h : LessOk lt) {f : Nat → α} {n i j : Nat} (d : UpF lt f n j) (hj0 : 0 < j) (hj : j < n) (hp : (j - 1) / 2 = i) (hlt : lt (f j) (f i) = true) : UpF lt (swF f i j) n i := by
  have hij : i ≠ j := by omega
  have e1 : ∀ k, k ≠ i → k ≠ j → swF f i j k = f k := fun k a b => by simp [swF, a, b]
  have e2 : swF f i j i = f j := by simp [swF]
  have e3 : swF f i j j = f i := by simp [swF, hij.symm]
  refine ⟨fun k h0 hk hne => ?_, fun k h0 hk hpk hi0 => ?_⟩
  · by_cases hpi : (k - 1) / 2 = i
    · rw [hpi, e2]
      by_cases hkj : k = j
      · rw [hkj, e3]; exact h.asym _ _ hlt
      · rw [e1 k hne hkj]
        have := d.1 k h0 hk hkj
        rw [hpi] at this
        exact h.trans _ _ _ this (h.asym _ _ hlt)
    · by_cases hkj : k = j
      · exact absurd (hkj ▸ hp) hpi
      · rw [e1 k hne hkj]
        by_cases hpj : (k - 1) / 2 = j
        · rw [hpj, e3]
          have := d.2 k h0 hk hpj hj0
          rw [hp] at this
          exact this
        · rw [e1 _ hpi hpj]; exact d.1 k h0 hk hkj
  · have q := d.1 i hi0 (by omega) hij
    rw [e1 ((i - 1) / 2) (by omega) (by omega)]
    by_cases hkj : k = j
    · rw [hkj, e3]; exact q
    · rw [e1 k (by omega) hkj]
      have := d.1 k h0 hk hkj
      rw [hpk] at this
      exact h.trans _ _ _ this q
/-- Lists. -/
def swL (d : α) (l : List α) (i j : Nat) : List α := (l.set i (l.getD j d)).set j (l.getD i d)
theorem swL_len (d : α) (l : List α) (i j : Nat) : (swL d l i j).length = l.length := by simp [swL]
theorem set_perm {x y : α} : ∀ {l : List α} {i : Nat}, l[i]? = some x → (x :: l.set i y).Perm (y :: l) := by
  intro l
  induction l with
  | nil => intro i h; simp at h
  | cons a t ih =>
    intro i h
    cases i with
    | zero =>
      have : a = x := by simpa using h
      subst this
      exact List.Perm.swap _ _ _
    | succ i =>
      have h' : t[i]? = some x := by simpa using h
      exact ((List.Perm.swap _ _ _).trans ((ih h').cons a)).trans (List.Perm.swap _ _ _)
theorem swL_perm (d : α) {l : List α} {i j : Nat} (hi : i < l.length) (hj : j < l.length) (hij : i ≠ j) : (swL d l i j).Perm l := by
  have ei : l[i]? = some (l.getD i d) := by rw [List.getD_eq_getElem?_getD, List.getElem?_eq_getElem hi]; rfl
  have ej : (l.set i (l.getD j d))[j]? = some (l.getD j d) := by rw [List.getElem?_set_ne hij, List.getD_eq_getElem?_getD, List.getElem?_eq_getElem hj]; rfl
  have p1 := set_perm (y := l.getD i d) ej
  have p2 := set_perm (y := l.getD j d) ei
  exact (p1.trans p2).cons_inv
theorem swL_fun (d : α) {l : List α} {i j : Nat} (hi : i < l.length) (hj : j < l.length) (hij : i ≠ j) : (fun k => (swL d l i j).getD k d) = swF (fun k => l.getD k d) i j := by
  funext k
  unfold swL swF
  by_cases h1 : k = j
  · subst h1
    rw [if_neg (fun q => hij q.symm), if_pos rfl, List.getD_eq_getElem?_getD, List.getElem?_set_self (by simpa using hj)]
    rfl
  · by_cases h2 : k = i
    · subst h2
      rw [if_pos rfl, List.getD_eq_getElem?_getD, List.getElem?_set_ne (fun q => h1 q.symm), List.getElem?_set_self hi]
      rfl
    · rw [if_neg h2, if_neg h1, List.getD_eq_getElem?_getD, List.getElem?_set_ne (fun q => h1 q.symm), List.getElem?_set_ne (fun q => h2 q.symm), ← List.getD_eq_getElem?_getD]
end
end Go.Proofs.YtfonchobolhkoaaDoor
