/- A heap in a list. -/
import Derived.Test.YtlnkhbnbcmllaaaGreatOrder
namespace Go.Proofs.YtlnkhbnbcmllaaaGreat
/-! A heap in a list: who stands above is not behind who stands below. -/
section
variable {α : Type} (lt : α → α → Bool) (d : α)
def ha (hs : List α) (i : Nat) : α := hs.getD i d
/-- Two places changed with each other. -/
def swp (hs : List α) (i j : Nat) : List α := (hs.set i (ha d hs j)).set j (ha d hs i)
theorem swp_len (hs : List α) (i j : Nat) : (swp d hs i j).length = hs.length := by simp [swp]
theorem swp_at (hs : List α) (i j k : Nat) (hi : i < hs.length) (hj : j < hs.length) : ha d (swp d hs i j) k = if k = j then ha d hs i else if k = i then ha d hs j else ha d hs k := by
  unfold swp
  by_cases hkj : k = j
  · subst hkj
    rw [if_pos rfl]
    unfold ha
    simp [hj]
  · rw [if_neg hkj]
    by_cases hki : k = i
    · subst hki
      rw [if_pos rfl]
      unfold ha
      rw [List.getD_eq_getElem?_getD, List.getElem?_set_ne (fun e => hkj e.symm), List.getElem?_set_self hi]
      rfl
    · rw [if_neg hki]
      unfold ha
      rw [List.getD_eq_getElem?_getD, List.getElem?_set_ne (fun e => hkj e.symm), List.getElem?_set_ne (fun e => hki e.symm), ← List.getD_eq_getElem?_getD]
theorem ha_get (hs : List α) (i : Nat) (h : i < hs.length) : ha d hs i = hs[i] := by simp [ha, h]
theorem set_perm : ∀ (l : List α) (j : Nat) (a : α) (h : j < l.length), (l[j] :: l.set j a).Perm (a :: l)
  | [], _, _, h => absurd h (by simp)
  | x :: l, 0, a, _ => by simpa using List.Perm.swap a x l
  | x :: l, j + 1, a, h => by
    have h' : j < l.length := by simpa using h
    have ih := set_perm l j a h'
    show (l[j] :: x :: l.set j a).Perm (a :: x :: l)
    exact (List.Perm.swap x l[j] _).trans ((ih.cons x).trans (List.Perm.swap a x l))
theorem swp_perm (hs : List α) (i j : Nat) (hi : i < hs.length) (hj : j < hs.length) (hij : i ≠ j) : (swp d hs i j).Perm hs := by
  have h1 := set_perm hs i (ha d hs j) hi
  have h2 := set_perm (hs.set i (ha d hs j)) j (ha d hs i) (by simpa using hj)
  have e : (hs.set i (ha d hs j))[j]'(by simpa using hj) = ha d hs j := by
    rw [List.getElem_set_ne hij, ← ha_get d hs j hj]
  rw [e] at h2
  rw [← ha_get d hs i hi] at h1
  have h3 : (ha d hs j :: swp d hs i j).Perm (ha d hs j :: hs) := h2.trans h1
  exact h3.cons_inv
def Hp (hs : List α) : Prop := ∀ i, 0 < i → i < hs.length → lt (ha d hs i) (ha d hs ((i - 1) / 2)) = false
/-- A heap but at one place that may have to go up. -/
structure Up (hs : List α) (k : Nat) : Prop where
  hlt : k < hs.length
  all : ∀ i, 0 < i → i < hs.length → i ≠ k → lt (ha d hs i) (ha d hs ((i - 1) / 2)) = false
  kids : 0 < k → ∀ c, 0 < c → c < hs.length → (c - 1) / 2 = k → lt (ha d hs c) (ha d hs ((k - 1) / 2)) = false
theorem Up.push {hs : List α} (h : Hp lt d hs) (a : α) : Up lt d (hs ++ [a]) hs.length where
  hlt := by simp
  all := fun i h0 hi hne => by
    have hi' : i < hs.length := by simp at hi; omega
    have e1 : ∀ j, j < hs.length → ha d (hs ++ [a]) j = ha d hs j := fun j hj => by
      unfold ha; rw [List.getD_eq_getElem?_getD, List.getElem?_append_left hj, ← List.getD_eq_getElem?_getD]
    rw [e1 i hi', e1 _ (by omega)]
    exact h i h0 hi'
  kids := fun h0 c hc hl e => by simp at hl; omega
theorem Up.done {hs : List α} {k : Nat} (h : Up lt d hs k) (hk : k = 0 ∨ lt (ha d hs k) (ha d hs ((k - 1) / 2)) = false) : Hp lt d hs := fun i h0 hi => by
  by_cases e : i = k
  · subst e
    rcases hk with rfl | hk
    · omega
    · exact hk
  · exact h.all i h0 hi e
variable (hco : ∀ a b c, lt a b = false → lt b c = false → lt a c = false) (has : ∀ a b, lt a b = true → lt b a = false)
include hco has in
theorem Up.step {hs : List α} {k : Nat} (h : Up lt d hs k) (h0 : 0 < k) (hf : lt (ha d hs k) (ha d hs ((k - 1) / 2)) = true) : Up lt d (swp d hs k ((k - 1) / 2)) ((k - 1) / 2) := by
  have hk := h.hlt
  have hp : (k - 1) / 2 < k := by omega
  have A := fun i => swp_at d hs k ((k - 1) / 2) i hk (by omega)
  have hrev := has _ _ hf
  refine ⟨by rw [swp_len]; omega, fun i hi0 hi hne => ?_, fun hp0 c hc0 hc he => ?_⟩
  · rw [swp_len] at hi
    rw [A, A, if_neg hne]
    by_cases e1 : i = k
    · subst e1
      rw [if_pos rfl, if_pos rfl]
      exact hrev
    · rw [if_neg e1]
      by_cases e2 : (i - 1) / 2 = (k - 1) / 2
      · rw [if_pos e2]
        have h1 := h.all i hi0 hi e1
        rw [e2] at h1
        exact hco _ _ _ h1 hrev
      · rw [if_neg e2]
        by_cases e3 : (i - 1) / 2 = k
        · rw [if_pos e3]
          exact h.kids h0 i hi0 hi e3
        · rw [if_neg e3]
          exact h.all i hi0 hi e1
  · rw [swp_len] at hc
    rw [A, A, if_neg (show ¬ c = (k - 1) / 2 by omega), if_neg (show ¬ ((k - 1) / 2 - 1) / 2 = (k - 1) / 2 by omega), if_neg (show ¬ ((k - 1) / 2 - 1) / 2 = k by omega)]
    have hpp := h.all ((k - 1) / 2) hp0 (by omega) (by omega)
    by_cases e1 : c = k
    · subst e1
      rw [if_pos rfl]
      exact hpp
    · rw [if_neg e1]
      have h1 := h.all c hc0 hc e1
      rw [he] at h1
      exact hco _ _ _ h1 hpp
/-- A heap but at one place that may have to go down. -/
structure Dn (hs : List α) (k : Nat) : Prop where
  all : ∀ i, 0 < i → i < hs.length → (i - 1) / 2 ≠ k → lt (ha d hs i) (ha d hs ((i - 1) / 2)) = false
  kids : 0 < k → ∀ c, 0 < c → c < hs.length → (c - 1) / 2 = k → lt (ha d hs c) (ha d hs ((k - 1) / 2)) = false
theorem Dn.start {hs : List α} (h : ∀ i, 0 < i → i < hs.length → (i - 1) / 2 ≠ 0 → lt (ha d hs i) (ha d hs ((i - 1) / 2)) = false) : Dn lt d hs 0 := ⟨h, fun h0 => absurd h0 (by omega)⟩
theorem Dn.done {hs : List α} {k : Nat} (h : Dn lt d hs k) (hk : ∀ c, 0 < c → c < hs.length → (c - 1) / 2 = k → lt (ha d hs c) (ha d hs k) = false) : Hp lt d hs := fun i h0 hi => by
  by_cases e : (i - 1) / 2 = k
  · rw [e]; exact hk i h0 hi e
  · exact h.all i h0 hi e
include has in
theorem Dn.step {hs : List α} {k m : Nat} (h : Dn lt d hs k) (hm0 : 0 < m) (hm : m < hs.length) (hmk : (m - 1) / 2 = k) (hf : lt (ha d hs m) (ha d hs k) = true) (hb : ∀ c, 0 < c → c < hs.length → (c - 1) / 2 = k → lt (ha d hs c) (ha d hs m) = false) : Dn lt d (swp d hs k m) m := by
  have hkm : k < m := by omega
  have A := fun i => swp_at d hs k m i (by omega) hm
  have hrev := has _ _ hf
  refine ⟨fun i hi0 hi hne => ?_, fun _ c hc0 hc he => ?_⟩
  · rw [swp_len] at hi
    rw [A, A]
    rw [if_neg hne]
    by_cases e1 : i = m
    · subst e1
      rw [if_pos rfl, if_pos hmk]
      exact hrev
    · rw [if_neg e1]
      by_cases e2 : i = k
      · subst e2
        rw [if_pos rfl, if_neg (by omega)]
        exact h.kids (by omega) m hm0 hm hmk
      · rw [if_neg e2]
        by_cases e3 : (i - 1) / 2 = k
        · rw [if_pos e3]; exact hb i hi0 hi e3
        · rw [if_neg e3]; exact h.all i hi0 hi e3
  · rw [swp_len] at hc
    rw [A, A, if_neg (by omega), if_neg (by omega)]
    rw [hmk, if_neg (by omega), if_pos rfl]
    have h1 := h.all c hc0 hc (by omega)
    rw [he] at h1
    exact h1
include hco in
theorem Hp.least {hs : List α} (h : Hp lt d hs) (hirr : ∀ a, lt a a = false) : ∀ n i, i ≤ n → i < hs.length → lt (ha d hs i) (ha d hs 0) = false
  | 0, i, hi, _ => by
    obtain rfl : i = 0 := by omega
    exact hirr _
  | n + 1, i, hi, hl => by
    by_cases e : i = 0
    · subst e; exact hirr _
    · exact hco _ _ _ (h i (by omega) hl) (Hp.least h hirr n ((i - 1) / 2) (by omega) (by omega))
/-- The last in place of the first. -/
theorem pop_perm (hs : List α) (h : 0 < hs.length) : (ha d hs 0 :: (hs.set 0 (ha d hs (hs.length - 1))).take (hs.length - 1)).Perm hs := by
  match hs with
  | [] => simp at h
  | [a] => simp [ha]
  | a :: b :: l =>
    have e : ha d (a :: b :: l) ((a :: b :: l).length - 1) = (b :: l).getLast (by simp) := by
      unfold ha
      rw [List.getLast_eq_getElem, List.getD_eq_getElem?_getD]
      simp
    rw [e]
    show (a :: ((b :: l).getLast _ :: (b :: l).take ((b :: l).length - 1))).Perm (a :: b :: l)
    refine List.Perm.cons a ?_
    have h2 : (b :: l).take ((b :: l).length - 1) = (b :: l).dropLast := by rw [List.dropLast_eq_take]
    rw [h2]
    have h3 := List.dropLast_concat_getLast (l := b :: l) (by simp)
    have h4 : ((b :: l).dropLast ++ [(b :: l).getLast (by simp)]).Perm (b :: l) := by rw [h3]
    exact (List.perm_append_singleton _ _).symm.trans h4
theorem pop_dn {hs : List α} (h : Hp lt d hs) (h0 : 0 < hs.length) : Dn lt d ((hs.set 0 (ha d hs (hs.length - 1))).take (hs.length - 1)) 0 := by
  refine Dn.start lt d fun i hi0 hi hne => ?_
  have hl : i < hs.length - 1 := by simp at hi; omega
  have e : ∀ j, 0 < j → j < hs.length - 1 → ha d ((hs.set 0 (ha d hs (hs.length - 1))).take (hs.length - 1)) j = ha d hs j := fun j hj0 hj => by
    unfold ha
    rw [List.getD_eq_getElem?_getD, List.getElem?_take_of_lt hj, List.getElem?_set_ne (by omega), ← List.getD_eq_getElem?_getD]
  rw [e i hi0 hl, e _ (by omega) (by omega)]
  exact h i hi0 (by omega)
end
/-! What leaves first. -/
abbrev Lv := ByteArray × Int
def lv0 : Lv := (⟨#[]⟩, 0)
def lfB (a b : Lv) : Bool := decide (a.2 < b.2) || (decide (a.2 = b.2) && tlt a.1 b.1)
theorem tlt_total {a b : ByteArray} (h : tlt a b = false) (k : tlt b a = false) : a = b := text_eq (bl_total _ _ h k)
theorem tlt_co {a b c : ByteArray} (h : tlt a b = false) (k : tlt b c = false) : tlt a c = false := by
  cases e : tlt a c with
  | false => rfl
  | true =>
    cases e2 : tlt b a with
    | true => rw [tlt_trans e2 e] at k; cases k
    | false =>
      have := tlt_total h e2
      subst this
      rw [e] at k; cases k
theorem tlt_as {a b : ByteArray} (h : tlt a b = true) : tlt b a = false := by
  cases e : tlt b a with
  | false => rfl
  | true => have := tlt_trans h e; rw [tlt_irrefl] at this; cases this
theorem lfB_iff (a b : Lv) : lfB a b = true ↔ a.2 < b.2 ∨ (a.2 = b.2 ∧ tlt a.1 b.1 = true) := by simp [lfB]
theorem lfB_not (a b : Lv) : lfB a b = false ↔ b.2 < a.2 ∨ (a.2 = b.2 ∧ tlt a.1 b.1 = false) := by
  rw [← Bool.not_eq_true, lfB_iff]
  constructor
  · intro h
    rcases Int.lt_trichotomy a.2 b.2 with h1 | h1 | h1
    · exact absurd (.inl h1) h
    · exact .inr ⟨h1, by cases e : tlt a.1 b.1 with | false => rfl | true => exact absurd (.inr ⟨h1, e⟩) h⟩
    · exact .inl h1
  · rintro (h | ⟨h1, h2⟩) (k | ⟨k1, k2⟩)
    · omega
    · omega
    · omega
    · rw [h2] at k2; cases k2
theorem lfB_irr (a : Lv) : lfB a a = false := (lfB_not a a).2 (.inr ⟨rfl, tlt_irrefl _⟩)
theorem lfB_as (a b : Lv) (h : lfB a b = true) : lfB b a = false := by
  rw [lfB_not]
  rcases (lfB_iff a b).1 h with h | ⟨h1, h2⟩
  · exact .inl h
  · exact .inr ⟨h1.symm, tlt_as h2⟩
theorem lfB_co (a b c : Lv) (h : lfB a b = false) (k : lfB b c = false) : lfB a c = false := by
  rw [lfB_not] at *
  rcases h with h | ⟨h1, h2⟩ <;> rcases k with k | ⟨k1, k2⟩
  · exact .inl (by omega)
  · exact .inl (by omega)
  · exact .inl (by omega)
  · exact .inr ⟨by omega, tlt_co h2 k2⟩
theorem lfB_eq {a b : Lv} (h : lfB a b = false) (k : lfB b a = false) : a = b := by
  rw [lfB_not] at *
  rcases h with h | ⟨h1, h2⟩ <;> rcases k with k | ⟨k1, k2⟩
  · omega
  · omega
  · omega
  · exact Prod.ext (tlt_total h2 k2) h1
abbrev hv (hs : List Lv) (i : Nat) : Lv := ha lv0 hs i
abbrev HpL (hs : List Lv) : Prop := Hp lfB lv0 hs
theorem HpL.least {hs : List Lv} (h : HpL hs) (l : Lv) (hl : l ∈ hs) : lfB l (hv hs 0) = false := by
  obtain ⟨i, hi, rfl⟩ := List.getElem_of_mem hl
  rw [← ha_get lv0 hs i hi]
  exact Hp.least lfB lv0 lfB_co h lfB_irr i i (Nat.le_refl _) hi
end Go.Proofs.YtlnkhbnbcmllaaaGreat
