/- What pins need. -/
import Derived.Test.YtloooejbjgaodaaGreatDoorReadTurned
import Derived.Test.YtloooejbjgaodaaGreatDoorGetImpl
namespace Go.Proofs.YtloooejbjgaodaaGreatDoor
open Go.RowKit
/-- The text of the item with a sum, and the empty one where there is none. -/
def Under (wd : Int) (its : Itms) (s t : ByteArray) : Prop := (∃ i, i < its.length ∧ sumX wd (itx its i) = s ∧ t = itx its i) ∨ ((∀ i, i < its.length → sumX wd (itx its i) ≠ s) ∧ t = ⟨#[]⟩)
/-- The list that the item with a sum is read as. -/
def UL (wd : Int) (its : Itms) (s : ByteArray) (n : Int) (ss : List ByteArray) (ok : Bool) : Prop := ∃ t, Under wd its s t ∧ ReadR t wd n ss ok
theorem Under.uniq {wd : Int} {its : Itms} {s t t' : ByteArray} (hN : (sumsL wd its).Pairwise (· < ·)) (h : Under wd its s t) (k : Under wd its s t') : t = t' := by
  rcases h with ⟨i, hi, e, rfl⟩ | ⟨hn, rfl⟩ <;> rcases k with ⟨j, hj, e', rfl⟩ | ⟨kn, rfl⟩
  · have := sums_inj hN hi hj (by rw [e, e'])
    subst this
    rfl
  · exact absurd e (kn i hi)
  · exact absurd e' (hn j hj)
  · rfl
theorem UL.uniq {wd : Int} {its : Itms} {s : ByteArray} {n n' : Int} {ss ss' : List ByteArray} {ok ok' : Bool} (hN : (sumsL wd its).Pairwise (· < ·)) (h : UL wd its s n ss ok) (k : UL wd its s n' ss' ok') : n = n' ∧ ss = ss' ∧ ok = ok' := by
  obtain ⟨t, ht, hr⟩ := h
  obtain ⟨t', kt, kr⟩ := k
  obtain rfl := ht.uniq hN kt
  exact hr.uniq kr
theorem read_none (wd : Int) : ReadR ⟨#[]⟩ wd 0 [] false := .inr ⟨rfl, rfl, rfl, noForm_size (.inl (by show (0 : Nat) < 6; omega))⟩
theorem ReadR.few {s : ByteArray} {m n : Int} {ss : List ByteArray} {ok : Bool} (h : ReadR s m n ss ok) : ss.length ≤ 375 ∧ (ok = false → ss = []) ∧ ∀ x ∈ ss, (x.size : Int) = m ∧ isW m = true := by
  rcases h with ⟨e, h, _⟩ | ⟨_, _, rfl, _⟩
  · have := okL_parts h
    exact ⟨this.2.2.1, fun h => (by rw [e] at h; cases h), fun x hx => ⟨this.2.2.2 x hx, this.1⟩⟩
  · exact ⟨by simp, fun _ => rfl, fun x hx => by cases hx⟩
theorem UL.few {wd : Int} {its : Itms} {s : ByteArray} {n : Int} {ss : List ByteArray} {ok : Bool} (h : UL wd its s n ss ok) : ss.length ≤ 375 ∧ (ok = false → ss = []) ∧ ∀ x ∈ ss, (x.size : Int) = wd ∧ isW wd = true := by
  obtain ⟨t, _, hr⟩ := h
  exact hr.few
def NeedX (wd : Int) (its : Itms) (p x : ByteArray) : Prop := x = p ∨ ∃ n ss ok, UL wd its p n ss ok ∧ x ∈ ss
def NeedTo (wd : Int) (its : Itms) (ts : List ByteArray) (k : Nat) (x : ByteArray) : Prop := ∃ j, j < k ∧ NeedX wd its (tv ts j) x
/-- What Needed answers of a valid store. -/
structure NeedR (wd : Int) (its : Itms) (ts : List ByteArray) (k : Nat) (out : List ByteArray) : Prop where
  asc : Asc out
  mem : ∀ x, x ∈ out ↔ NeedTo wd its ts k x
theorem NeedX.of_list {wd : Int} {its : Itms} {p x : ByteArray} {n : Int} {ss : List ByteArray} {ok : Bool} (hN : (sumsL wd its).Pairwise (· < ·)) (h : UL wd its p n ss ok) : NeedX wd its p x ↔ x = p ∨ x ∈ ss := by
  constructor
  · rintro (e | ⟨n', ss', ok', h', hx⟩)
    · exact .inl e
    · obtain ⟨_, rfl, _⟩ := h.uniq hN h'
      exact .inr hx
  · rintro (e | hx)
    · exact .inl e
    · exact .inr ⟨n, ss, ok, h, hx⟩
theorem NeedTo.succ {wd : Int} {its : Itms} {ts : List ByteArray} {k : Nat} {x : ByteArray} : NeedTo wd its ts (k + 1) x ↔ NeedTo wd its ts k x ∨ NeedX wd its (tv ts k) x := by
  constructor
  · rintro ⟨j, hj, h⟩
    rcases Nat.lt_or_eq_of_le (Nat.le_of_lt_succ hj) with h1 | h1
    · exact .inl ⟨j, h1, h⟩
    · subst h1
      exact .inr h
  · rintro (⟨j, hj, h⟩ | h)
    · exact ⟨j, by omega, h⟩
    · exact ⟨k, by omega, h⟩
theorem asc_lists {ts : List ByteArray} (h : Asc ts) : (ts.map fun b => b.data.toList).Pairwise (· < ·) := List.Pairwise.map (f := fun b : ByteArray => b.data.toList) (S := (· < ·)) (fun _ _ hab => tlt_lt hab) h
theorem mem_lists {ts : List ByteArray} {x : ByteArray} : x.data.toList ∈ (ts.map fun b => b.data.toList) ↔ x ∈ ts := by
  rw [List.mem_map]
  constructor
  · rintro ⟨y, hy, e⟩
    obtain rfl : y = x := ByteArray.ext (by simpa using e)
    exact hy
  · exact fun h => ⟨x, h, rfl⟩
theorem asc_eq : ∀ {a b : List ByteArray}, Asc a → Asc b → (∀ x, x ∈ a ↔ x ∈ b) → a = b
  | [], [], _, _, _ => rfl
  | [], y :: b, _, _, h => by have := (h y).2 (by simp); cases this
  | x :: a, [], _, _, h => by have := (h x).1 (by simp); cases this
  | x :: a, y :: b, ha, hb, h => by
    have h1 := List.pairwise_cons.1 ha
    have h2 := List.pairwise_cons.1 hb
    have e : x = y := by
      rcases List.mem_cons.1 ((h x).1 (by simp)) with e | hx
      · exact e
      · rcases List.mem_cons.1 ((h y).2 (by simp)) with e | hy
        · exact e.symm
        · have k1 := h2.1 x hx
          have k2 := h1.1 y hy
          have := tlt_trans k1 k2
          rw [tlt_irrefl] at this
          cases this
    subst e
    have e2 : a = b := asc_eq h1.2 h2.2 (fun z => by
      constructor
      · intro hz
        rcases List.mem_cons.1 ((h z).1 (List.mem_cons_of_mem _ hz)) with e | hz'
        · subst e
          have := h1.1 z hz
          rw [tlt_irrefl] at this
          cases this
        · exact hz'
      · intro hz
        rcases List.mem_cons.1 ((h z).2 (List.mem_cons_of_mem _ hz)) with e | hz'
        · subst e
          have := h2.1 z hz
          rw [tlt_irrefl] at this
          cases this
        · exact hz')
    rw [e2]
theorem NeedR.uniq {wd : Int} {its : Itms} {ts : List ByteArray} {k : Nat} {a b : List ByteArray} (h : NeedR wd its ts k a) (g : NeedR wd its ts k b) : a = b := asc_eq h.asc g.asc fun x => (h.mem x).trans (g.mem x).symm
/-- One more text in its place. -/
def putT (s : ByteArray) (ts : List ByteArray) : List ByteArray := if cutN s ts < ts.length ∧ tv ts (cutN s ts) = s then ts else ts.take (cutN s ts) ++ s :: ts.drop (cutN s ts)
theorem putT_mem {s : ByteArray} {ts : List ByteArray} (x : ByteArray) : x ∈ putT s ts ↔ x = s ∨ x ∈ ts := by
  unfold putT
  split
  · next h =>
    constructor
    · exact .inr
    · rintro (e | hx)
      · subst e
        have := h.2
        unfold tv at this
        rw [List.getD_eq_getElem?_getD, List.getElem?_eq_getElem h.1] at this
        have h3 : ts[cutN x ts]'h.1 = x := by simpa using this
        exact h3 ▸ List.getElem_mem h.1
      · exact hx
  · have e : ts = ts.take (cutN s ts) ++ ts.drop (cutN s ts) := (List.take_append_drop _ _).symm
    constructor
    · intro hx
      rcases List.mem_append.1 hx with h1 | h1
      · exact .inr (List.mem_of_mem_take h1)
      · rcases List.mem_cons.1 h1 with h2 | h2
        · exact .inl h2
        · exact .inr (List.mem_of_mem_drop h2)
    · rintro (h1 | h1)
      · subst h1
        simp
      · rw [e] at h1
        rcases List.mem_append.1 h1 with h2 | h2
        · exact List.mem_append_left _ h2
        · exact List.mem_append_right _ (List.mem_cons_of_mem _ h2)
theorem putT_asc {s : ByteArray} {ts : List ByteArray} (h : Asc ts) : Asc (putT s ts) := by
  unfold putT
  split
  · exact h
  · next hn =>
    have ht : ∀ x ∈ ts.take (cutN s ts), tlt x s = true := by
      rw [← cut_take s ts h]
      intro x hx
      exact (List.mem_filter.1 hx).2
    have hd : ∀ x ∈ ts.drop (cutN s ts), tlt s x = true := by
      intro x hx
      have h1 : tlt x s = false := by
        have : x ∈ ts.filter (fun t => !tlt t s) := by rw [cut_drop s ts h]; exact hx
        simpa using (List.mem_filter.1 this).2
      by_cases hx2 : tlt s x = true
      · exact hx2
      · exfalso
        have e : x = s := text_eq (bl_total _ _ h1 (Bool.eq_false_iff.2 hx2))
        subst e
        obtain ⟨i, hi, e2⟩ := List.mem_iff_getElem.1 hx
        rw [List.getElem_drop] at e2
        rw [List.length_drop] at hi
        by_cases h0 : i = 0
        · subst h0
          refine hn ⟨by omega, ?_⟩
          unfold tv
          rw [List.getD_eq_getElem?_getD, List.getElem?_eq_getElem (by omega)]
          simpa using e2
        · have h3 := List.pairwise_iff_getElem.1 h (cutN x ts) (cutN x ts + i) (by omega) (by omega) (by omega)
          rw [e2] at h3
          have h4 := cut_above x ts h (cutN x ts) (Nat.le_refl _) (by omega)
          unfold tv at h4
          rw [List.getD_eq_getElem?_getD, List.getElem?_eq_getElem (by omega)] at h4
          simp only [Option.getD_some] at h4
          rw [h3] at h4
          cases h4
    refine List.pairwise_append.2 ⟨asc_take h _, List.pairwise_cons.2 ⟨hd, asc_drop h _⟩, fun a ha b hb => ?_⟩
    rcases List.mem_cons.1 hb with e | hb
    · subst e
      exact ht a ha
    · exact tlt_trans (ht a ha) (hd b hb)
theorem putT_len (s : ByteArray) (ts : List ByteArray) : (putT s ts).length ≤ ts.length + 1 := by
  unfold putT
  split
  · omega
  · have := cutN_le s ts
    simp
    omega
end Go.Proofs.YtloooejbjgaodaaGreatDoor
