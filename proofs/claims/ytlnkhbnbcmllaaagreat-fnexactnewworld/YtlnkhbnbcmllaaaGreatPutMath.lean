import Derived.Test.YtlnkhbnbcmllaaaGreatOrder
import Derived.Test.YtlnkhbnbcmllaaaGreatReadTurned
import Derived.Test.YtlnkhbnbcmllaaaGreatGetImpl
/- A heap in a list. -/
namespace Go.Proofs.YtlnkhbnbcmllaaaGreat
/-! A heap in a list: who stands above is not behind who stands below. -/
section
variable {α : Type} (lt : α → α → Bool) (d : α)
def ha (hs : List α) (i : Nat) : α := hs.getD i d
/-- Two places changed with each other. -/
def swp (hs : List α) (i j : Nat) : List α := (hs.set i (ha d hs j)).set j (ha d hs i)
theorem swp_len (hs : List α) (i j : Nat) : (swp d hs i j).length = hs.length := by simp [swp]
theorem swp_at (hs : List α) (i j k : Nat) (hi : i < hs.length) (hj : j < hs.length) : ha d (swp d hs i j) k = if k = j then ha d hs i else if k = i then ha d hs j else ha d hs k := by
  unfold swp
  by_cases hkj : k = j
  · subst hkj
    rw [if_pos rfl]
    unfold ha
    simp [hj]
  · rw [if_neg hkj]
    by_cases hki : k = i
    · subst hki
      rw [if_pos rfl]
      unfold ha
      rw [List.getD_eq_getElem?_getD, List.getElem?_set_ne (fun e => hkj e.symm), List.getElem?_set_self hi]
      rfl
    · rw [if_neg hki]
      unfold ha
      rw [List.getD_eq_getElem?_getD, List.getElem?_set_ne (fun e => hkj e.symm), List.getElem?_set_ne (fun e => hki e.symm), ← List.getD_eq_getElem?_getD]
theorem ha_get (hs : List α) (i : Nat) (h : i < hs.length) : ha d hs i = hs[i] := by simp [ha, h]
def Hp (hs : List α) : Prop := ∀ i, 0 < i → i < hs.length → lt (ha d hs i) (ha d hs ((i - 1) / 2)) = false
/-- A heap but at one place that may have to go up. -/
structure Up (hs : List α) (k : Nat) : Prop where
  hlt : k < hs.length
  all : ∀ i, 0 < i → i < hs.length → i ≠ k → lt (ha d hs i) (ha d hs ((i - 1) / 2)) = false
  kids : 0 < k → ∀ c, 0 < c → c < hs.length → (c - 1) / 2 = k → lt (ha d hs c) (ha d hs ((k - 1) / 2)) = false
theorem Up.push {hs : List α} (h : Hp lt d hs) (a : α) : Up lt d (hs ++ [a]) hs.length where
  hlt := by simp
  all := fun i h0 hi hne => by
    have hi' : i < hs.length := by simp at hi; omega
    have e1 : ∀ j, j < hs.length → ha d (hs ++ [a]) j = ha d hs j := fun j hj => by
      unfold ha; rw [List.getD_eq_getElem?_getD, List.getElem?_append_left hj, ← List.getD_eq_getElem?_getD]
    rw [e1 i hi', e1 _ (by omega)]
    exact h i h0 hi'
  kids := fun h0 c hc hl e => by simp at hl; omega
theorem Up.done {hs : List α} {k : Nat} (h : Up lt d hs k) (hk : k = 0 ∨ lt (ha d hs k) (ha d hs ((k - 1) / 2)) = false) : Hp lt d hs := fun i h0 hi => by
  by_cases e : i = k
  · subst e
    rcases hk with rfl | hk
    · omega
    · exact hk
  · exact h.all i h0 hi e
variable (hco : ∀ a b c, lt a b = false → lt b c = false → lt a c = false) (has : ∀ a b, lt a b = true → lt b a = false)
include hco has in
theorem Up.step {hs : List α} {k : Nat} (h : Up lt d hs k) (h0 : 0 < k) (hf : lt (ha d hs k) (ha d hs ((k - 1) / 2)) = true) : Up lt d (swp d hs k ((k - 1) / 2)) ((k - 1) / 2) := by
  have hk := h.hlt
  have hp : (k - 1) / 2 < k := by omega
  have A := fun i => swp_at d hs k ((k - 1) / 2) i hk (by omega)
  have hrev := has _ _ hf
  refine ⟨by rw [swp_len]; omega, fun i hi0 hi hne => ?_, fun hp0 c hc0 hc he => ?_⟩
  · rw [swp_len] at hi
    rw [A, A, if_neg hne]
    by_cases e1 : i = k
    · subst e1
      rw [if_pos rfl, if_pos rfl]
      exact hrev
    · rw [if_neg e1]
      by_cases e2 : (i - 1) / 2 = (k - 1) / 2
      · rw [if_pos e2]
        have h1 := h.all i hi0 hi e1
        rw [e2] at h1
        exact hco _ _ _ h1 hrev
      · rw [if_neg e2]
        by_cases e3 : (i - 1) / 2 = k
        · rw [if_pos e3]
          exact h.kids h0 i hi0 hi e3
        · rw [if_neg e3]
          exact h.all i hi0 hi e1
  · rw [swp_len] at hc
    rw [A, A, if_neg (show ¬ c = (k - 1) / 2 by omega), if_neg (show ¬ ((k - 1) / 2 - 1) / 2 = (k - 1) / 2 by omega), if_neg (show ¬ ((k - 1) / 2 - 1) / 2 = k by omega)]
    have hpp := h.all ((k - 1) / 2) hp0 (by omega) (by omega)
    by_cases e1 : c = k
    · subst e1
      rw [if_pos rfl]
      exact hpp
    · rw [if_neg e1]
      have h1 := h.all c hc0 hc e1
      rw [he] at h1
      exact hco _ _ _ h1 hpp
/-- A heap but at one place that may have to go down. -/
structure Dn (hs : List α) (k : Nat) : Prop where
  all : ∀ i, 0 < i → i < hs.length → (i - 1) / 2 ≠ k → lt (ha d hs i) (ha d hs ((i - 1) / 2)) = false
  kids : 0 < k → ∀ c, 0 < c → c < hs.length → (c - 1) / 2 = k → lt (ha d hs c) (ha d hs ((k - 1) / 2)) = false
theorem Dn.start {hs : List α} (h : ∀ i, 0 < i → i < hs.length → (i - 1) / 2 ≠ 0 → lt (ha d hs i) (ha d hs ((i - 1) / 2)) = false) : Dn lt d hs 0 := ⟨h, fun h0 => absurd h0 (by omega)⟩
theorem Dn.done {hs : List α} {k : Nat} (h : Dn lt d hs k) (hk : ∀ c, 0 < c → c < hs.length → (c - 1) / 2 = k → lt (ha d hs c) (ha d hs k) = false) : Hp lt d hs := fun i h0 hi => by
  by_cases e : (i - 1) / 2 = k
  · rw [e]; exact hk i h0 hi e
  · exact h.all i h0 hi e
include has in
theorem Dn.step {hs : List α} {k m : Nat} (h : Dn lt d hs k) (hm0 : 0 < m) (hm : m < hs.length) (hmk : (m - 1) / 2 = k) (hf : lt (ha d hs m) (ha d hs k) = true) (hb : ∀ c, 0 < c → c < hs.length → (c - 1) / 2 = k → lt (ha d hs c) (ha d hs m) = false) : Dn lt d (swp d hs k m) m := by
  have hkm : k < m := by omega
  have A := fun i => swp_at d hs k m i (by omega) hm
  have hrev := has _ _ hf
  refine ⟨fun i hi0 hi hne => ?_, fun _ c hc0 hc he => ?_⟩
  · rw [swp_len] at hi
    rw [A, A]
    rw [if_neg hne]
    by_cases e1 : i = m
    · subst e1
      rw [if_pos rfl, if_pos hmk]
      exact hrev
    · rw [if_neg e1]
      by_cases e2 : i = k
      · subst e2
        rw [if_pos rfl, if_neg (by omega)]
        exact h.kids (by omega) m hm0 hm hmk
      · rw [if_neg e2]
        by_cases e3 : (i - 1) / 2 = k
        · rw [if_pos e3]; exact hb i hi0 hi e3
        · rw [if_neg e3]; exact h.all i hi0 hi e3
  · rw [swp_len] at hc
    rw [A, A, if_neg (by omega), if_neg (by omega)]
    rw [hmk, if_neg (by omega), if_pos rfl]
    have h1 := h.all c hc0 hc (by omega)
    rw [he] at h1
    exact h1
include hco in
theorem Hp.least {hs : List α} (h : Hp lt d hs) (hirr : ∀ a, lt a a = false) : ∀ n i, i ≤ n → i < hs.length → lt (ha d hs i) (ha d hs 0) = false
  | 0, i, hi, _ => by
    obtain rfl : i = 0 := by omega
    exact hirr _
  | n + 1, i, hi, hl => by
    by_cases e : i = 0
    · subst e; exact hirr _
    · exact hco _ _ _ (h i (by omega) hl) (Hp.least h hirr n ((i - 1) / 2) (by omega) (by omega))
end
/-! What leaves first. -/
abbrev Lv := ByteArray × Int
def lv0 : Lv := (⟨#[]⟩, 0)
def lfB (a b : Lv) : Bool := decide (a.2 < b.2) || (decide (a.2 = b.2) && tlt a.1 b.1)
theorem tlt_total {a b : ByteArray} (h : tlt a b = false) (k : tlt b a = false) : a = b := text_eq (bl_total _ _ h k)
theorem tlt_co {a b c : ByteArray} (h : tlt a b = false) (k : tlt b c = false) : tlt a c = false := by
  cases e : tlt a c with
  | false => rfl
  | true =>
    cases e2 : tlt b a with
    | true => rw [tlt_trans e2 e] at k; cases k
    | false =>
      have := tlt_total h e2
      subst this
      rw [e] at k; cases k
theorem tlt_as {a b : ByteArray} (h : tlt a b = true) : tlt b a = false := by
  cases e : tlt b a with
  | false => rfl
  | true => have := tlt_trans h e; rw [tlt_irrefl] at this; cases this
theorem lfB_iff (a b : Lv) : lfB a b = true ↔ a.2 < b.2 ∨ (a.2 = b.2 ∧ tlt a.1 b.1 = true) := by simp [lfB]
theorem lfB_not (a b : Lv) : lfB a b = false ↔ b.2 < a.2 ∨ (a.2 = b.2 ∧ tlt a.1 b.1 = false) := by
  rw [← Bool.not_eq_true, lfB_iff]
  constructor
  · intro h
    rcases Int.lt_trichotomy a.2 b.2 with h1 | h1 | h1
    · exact absurd (.inl h1) h
    · exact .inr ⟨h1, by cases e : tlt a.1 b.1 with | false => rfl | true => exact absurd (.inr ⟨h1, e⟩) h⟩
    · exact .inl h1
  · rintro (h | ⟨h1, h2⟩) (k | ⟨k1, k2⟩)
    · omega
    · omega
    · omega
    · rw [h2] at k2; cases k2
theorem lfB_irr (a : Lv) : lfB a a = false := (lfB_not a a).2 (.inr ⟨rfl, tlt_irrefl _⟩)
theorem lfB_as (a b : Lv) (h : lfB a b = true) : lfB b a = false := by
  rw [lfB_not]
  rcases (lfB_iff a b).1 h with h | ⟨h1, h2⟩
  · exact .inl h
  · exact .inr ⟨h1.symm, tlt_as h2⟩
theorem lfB_co (a b c : Lv) (h : lfB a b = false) (k : lfB b c = false) : lfB a c = false := by
  rw [lfB_not] at *
  rcases h with h | ⟨h1, h2⟩ <;> rcases k with k | ⟨k1, k2⟩
  · exact .inl (by omega)
  · exact .inl (by omega)
  · exact .inl (by omega)
  · exact .inr ⟨by omega, tlt_co h2 k2⟩
abbrev hv (hs : List Lv) (i : Nat) : Lv := ha lv0 hs i
abbrev HpL (hs : List Lv) : Prop := Hp lfB lv0 hs
theorem HpL.least {hs : List Lv} (h : HpL hs) (l : Lv) (hl : l ∈ hs) : lfB l (hv hs 0) = false := by
  obtain ⟨i, hi, rfl⟩ := List.getElem_of_mem hl
  rw [← ha_get lv0 hs i hi]
  exact Hp.least lfB lv0 lfB_co h lfB_irr i i (Nat.le_refl _) hi
end Go.Proofs.YtlnkhbnbcmllaaaGreat
/- What pins need. -/
namespace Go.Proofs.YtlnkhbnbcmllaaaGreat
open Go.RowKit
/-- The text of the item with a sum, and the empty one where there is none. -/
def Under (wd : Int) (its : Itms) (s t : ByteArray) : Prop := (∃ i, i < its.length ∧ sumX wd (itx its i) = s ∧ t = itx its i) ∨ ((∀ i, i < its.length → sumX wd (itx its i) ≠ s) ∧ t = ⟨#[]⟩)
/-- The list that the item with a sum is read as. -/
def UL (wd : Int) (its : Itms) (s : ByteArray) (n : Int) (ss : List ByteArray) (ok : Bool) : Prop := ∃ t, Under wd its s t ∧ ReadR t wd n ss ok
def NeedX (wd : Int) (its : Itms) (p x : ByteArray) : Prop := x = p ∨ ∃ n ss ok, UL wd its p n ss ok ∧ x ∈ ss
def NeedTo (wd : Int) (its : Itms) (ts : List ByteArray) (k : Nat) (x : ByteArray) : Prop := ∃ j, j < k ∧ NeedX wd its (tv ts j) x
theorem NeedTo.succ {wd : Int} {its : Itms} {ts : List ByteArray} {k : Nat} {x : ByteArray} : NeedTo wd its ts (k + 1) x ↔ NeedTo wd its ts k x ∨ NeedX wd its (tv ts k) x := by
  constructor
  · rintro ⟨j, hj, h⟩
    rcases Nat.lt_or_eq_of_le (Nat.le_of_lt_succ hj) with h1 | h1
    · exact .inl ⟨j, h1, h⟩
    · subst h1
      exact .inr h
  · rintro (⟨j, hj, h⟩ | h)
    · exact ⟨j, by omega, h⟩
    · exact ⟨k, by omega, h⟩
end Go.Proofs.YtlnkhbnbcmllaaaGreat
/- What goes first out of a store, and what Put makes of one. -/
namespace Go.Proofs.YtlnkhbnbcmllaaaGreat
def lvOf (wd : Int) (p : ByteArray × Int) : Lv := (sumX wd p.1, p.2)
def lvAt (wd : Int) (its : Itms) (i : Nat) : Lv := (sumX wd (itx its i), itu its i)
/-- The item that goes first. -/
structure LeastAway (wd : Int) (Q : ByteArray → Prop) (its : Itms) (i : Nat) : Prop where
  lt : i < its.length
  free : ¬ Q (sumX wd (itx its i))
  least : ∀ j, j < its.length → ¬ Q (sumX wd (itx its j)) → lfB (lvAt wd its j) (lvAt wd its i) = false
/-- So many given away, one by one. -/
inductive AwayN (wd : Int) (Q : ByteArray → Prop) (its : Itms) : Nat → Itms → Prop where
  | zero : AwayN wd Q its 0 its
  | step {k : Nat} {its1 : Itms} {i : Nat} (h : AwayN wd Q its k its1) (hl : LeastAway wd Q its1 i) : AwayN wd Q its (k + 1) (its1.eraseIdx i)
theorem AwayN.sub {wd : Int} {Q : ByteArray → Prop} {its its' : Itms} {k : Nat} (h : AwayN wd Q its k its') : its'.Sublist its := by
  induction h with
  | zero => exact List.Sublist.refl _
  | step h hl ih => exact (List.eraseIdx_sublist _ _).trans ih
theorem AwayN.len {wd : Int} {Q : ByteArray → Prop} {its its' : Itms} {k : Nat} (h : AwayN wd Q its k its') : its'.length + k = its.length := by
  induction h with
  | zero => rfl
  | step h hl ih =>
    have := hl.lt
    rw [List.length_eraseIdx_of_lt this]
    omega
def fitsI (room : Int) (its : Itms) (n : Nat) : Prop := (totI its : Int) + n ≤ room ∧ its.length < 1000
/-- How many items stand ahead of a sum. -/
def cutI (wd : Int) (s : ByteArray) (its : Itms) : Nat := cutN s (its.map fun p => sumX wd p.1)
def insI (wd : Int) (its : Itms) (t : ByteArray) (now : Int) : Itms := its.take (cutI wd (sumX wd t) its) ++ (t, now) :: its.drop (cutI wd (sumX wd t) its)
/-- What Put makes of the items of a valid store. -/
inductive PutI (wd room : Int) (Q : ByteArray → Prop) (its : Itms) (t : ByteArray) (now : Int) : Int → Itms → Prop where
  | there (i : Nat) (hi : i < its.length) (hs : sumX wd (itx its i) = sumX wd t) (ht : itx its i = t) : PutI wd room Q its t now 0 (its.set i (t, now))
  | other (i : Nat) (hi : i < its.length) (hs : sumX wd (itx its i) = sumX wd t) (ht : itx its i ≠ t) : PutI wd room Q its t now 2 its
  | put (k : Nat) (its' : Itms) (hn : ∀ i, i < its.length → sumX wd (itx its i) ≠ sumX wd t) (ha : AwayN wd Q its k its') (hf : fitsI room its' t.size) (hb : ∀ j a, j < k → AwayN wd Q its j a → ¬ fitsI room a t.size) : PutI wd room Q its t now 0 (insI wd its' t now)
  | full (k : Nat) (its' : Itms) (hn : ∀ i, i < its.length → sumX wd (itx its i) ≠ sumX wd t) (ha : AwayN wd Q its k its') (hb : ∀ j a, j < k + 1 → AwayN wd Q its j a → ¬ fitsI room a t.size) (hno : ∀ i, i < its'.length → Q (sumX wd (itx its' i))) : PutI wd room Q its t now 3 its
/-! Items with one taken out -/
theorem itx_get (its : Itms) (i : Nat) (h : i < its.length) : itx its i = its[i].1 := by simp [itx, h]
theorem itu_get (its : Itms) (i : Nat) (h : i < its.length) : itu its i = its[i].2 := by simp [itu, h]
theorem lvAt_of (wd : Int) (its : Itms) (i : Nat) (h : i < its.length) : lvAt wd its i = lvOf wd its[i] := by unfold lvAt lvOf; rw [itx_get its i h, itu_get its i h]
theorem its_nodup {wd : Int} {its : Itms} (hN : (sumsL wd its).Pairwise (· < ·)) : its.Nodup := by
  have h : (its.map fun p => (sumX wd p.1).data.toList).Pairwise (· < ·) := hN
  rw [List.pairwise_map] at h
  exact h.imp fun h e => by subst e; exact List.lt_irrefl _ h
theorem mem_erase {wd : Int} {its : Itms} (hN : (sumsL wd its).Pairwise (· < ·)) (i : Nat) (h : i < its.length) (p : ByteArray × Int) : p ∈ its.eraseIdx i ↔ p ∈ its ∧ p ≠ its[i] := by
  have hd := its_nodup hN
  have e : its = its.take i ++ its[i] :: its.drop (i + 1) := by rw [List.getElem_cons_drop, List.take_append_drop]
  have e2 : its.eraseIdx i = its.take i ++ its.drop (i + 1) := List.eraseIdx_eq_take_drop_succ _ _
  generalize hq : its[i] = q at *
  rw [e] at hd
  rw [e2]
  have hne : ∀ x, x ∈ its.take i ++ its.drop (i + 1) → x ≠ q := by
    rw [List.nodup_append] at hd
    obtain ⟨_, h2, h3⟩ := hd
    rw [List.nodup_cons] at h2
    intro x hx hxq
    subst hxq
    rcases List.mem_append.1 hx with hx | hx
    · exact h3 x hx x (by simp) rfl
    · exact h2.1 hx
  constructor
  · intro hp
    refine ⟨?_, hne p hp⟩
    rw [e]
    simp only [List.mem_append, List.mem_cons] at hp ⊢
    rcases hp with hp | hp
    · exact .inl hp
    · exact .inr (.inr hp)
  · rintro ⟨hp, hn⟩
    rw [e] at hp
    simp only [List.mem_append, List.mem_cons] at hp ⊢
    rcases hp with hp | hp | hp
    · exact .inl hp
    · exact absurd hp hn
    · exact .inr hp
/-! The heap of what may leave -/
structure HeapIs (wd : Int) (Q : ByteArray → Prop) (its : Itms) (hs : List Lv) : Prop where
  nodup : hs.Nodup
  mem : ∀ l, l ∈ hs ↔ ∃ p, p ∈ its ∧ ¬ Q (sumX wd p.1) ∧ l = lvOf wd p
theorem lvOf_inj {wd : Int} {its : Itms} (hN : (sumsL wd its).Pairwise (· < ·)) {p q : ByteArray × Int} (hp : p ∈ its) (hq : q ∈ its) (h : lvOf wd p = lvOf wd q) : p = q := by
  obtain ⟨i, hi, rfl⟩ := List.getElem_of_mem hp
  obtain ⟨j, hj, rfl⟩ := List.getElem_of_mem hq
  have e : sumX wd its[i].1 = sumX wd its[j].1 := congrArg Prod.fst h
  have := sums_inj (n := wd) hN hi hj (by rw [itx_get its i hi, itx_get its j hj, e])
  subst this
  rfl
theorem HeapIs.pop {wd : Int} {Q : ByteArray → Prop} {its : Itms} {hs hs' : List Lv} (hN : (sumsL wd its).Pairwise (· < ·)) (h : HeapIs wd Q its hs) (hh : HpL hs) (hp : (hv hs 0 :: hs').Perm hs) : ∃ i, LeastAway wd Q its i ∧ hv hs 0 = lvAt wd its i ∧ HeapIs wd Q (its.eraseIdx i) hs' := by
  have hd := hp.nodup_iff.2 h.nodup
  rw [List.nodup_cons] at hd
  have hm : ∀ l, l ∈ hs ↔ l = hv hs 0 ∨ l ∈ hs' := fun l => by rw [← hp.mem_iff]; simp
  obtain ⟨p, hpi, hpq, hpe⟩ := (h.mem _).1 ((hm _).2 (.inl rfl))
  obtain ⟨i, hi, rfl⟩ := List.getElem_of_mem hpi
  refine ⟨i, ⟨hi, by rw [itx_get its i hi]; exact hpq, fun j hj hf => ?_⟩, by rw [lvAt_of wd its i hi]; exact hpe, hd.2, fun l => ?_⟩
  · rw [lvAt_of wd its i hi, ← hpe]
    refine hh.least _ ((h.mem _).2 ⟨its[j], List.getElem_mem hj, by rw [itx_get its j hj] at hf; exact hf, lvAt_of wd its j hj⟩)
  · constructor
    · intro hl
      obtain ⟨q, hq1, hq2, hq3⟩ := (h.mem l).1 ((hm l).2 (.inr hl))
      refine ⟨q, (mem_erase hN i hi q).2 ⟨hq1, fun e => ?_⟩, hq2, hq3⟩
      subst e
      rw [hq3, ← hpe] at hl
      exact hd.1 hl
    · rintro ⟨q, hq1, hq2, rfl⟩
      obtain ⟨hq1, hne⟩ := (mem_erase hN i hi q).1 hq1
      rcases (hm _).1 ((h.mem _).2 ⟨q, hq1, hq2, rfl⟩) with e | e
      · rw [hpe] at e
        exact absurd (lvOf_inj hN hq1 hpi e) hne
      · exact e
theorem HeapIs.empty {wd : Int} {Q : ByteArray → Prop} {its : Itms} (h : HeapIs wd Q its []) : ∀ i, i < its.length → Q (sumX wd (itx its i)) := fun i hi => by
  apply Classical.byContradiction
  intro hn
  have := (h.mem (lvOf wd its[i])).2 ⟨its[i], List.getElem_mem hi, by rw [← itx_get its i hi]; exact hn, rfl⟩
  cases this
end Go.Proofs.YtlnkhbnbcmllaaaGreat
