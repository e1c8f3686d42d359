import Derived.Test.YtlnkhbnbcmllaaaGreatHeapPop
import Derived.Test.YtlnkhbnbcmllaaaGreatNeedImpl
import Derived.Maps.RangeWalk
import Derived.Sort.MapsRangeIn
import Derived.Maps.Ext
import Derived.ChangeMaps
/- (*impl.shelf).leavers: the items that are not needed, in a heap. -/
namespace Go.Proofs.YtlnkhbnbcmllaaaGreat
open Go.RowKit
/-- The heap of those that have come up so far. -/
structure Part (wd : Int) (Q : ByteArray → Prop) (its : Itms) (left : Lit → Bool) (hs : List Lv) : Prop where
  nodup : hs.Nodup
  mem : ∀ l, l ∈ hs ↔ ∃ p, p ∈ its ∧ ¬ Q (sumX wd p.1) ∧ l = lvOf wd p ∧ left (.string (sumX wd p.1).data.toList) = false
theorem mapI_all (wd : Int) (its : Itms) (x : List UInt8) : Maps.has (mapI wd its its.length) (.string x) = true ↔ x ∈ sumsL wd its := by
  rw [mapI_has wd its x its.length (Nat.le_refl _)]
  rw [List.take_of_length_le (by rw [sumsL_len]; exact Nat.le_refl _)]
theorem same_str (a b : List UInt8) : (Lit.string a).sameKey (.string b) = (a == b) := rfl
theorem left_next {left : Lit → Bool} {a b : List UInt8} : (left (.string a) && !(Lit.string a).sameKey (.string b)) = false ↔ left (.string a) = false ∨ a = b := by
  rw [same_str]
  cases left (.string a) <;> simp
theorem Part.skip {wd : Int} {Q : ByteArray → Prop} {its : Itms} {left : Lit → Bool} {hs : List Lv} (h : Part wd Q its left hs) {x : ByteArray} (hx : Q x) : Part wd Q its (fun z => left z && !z.sameKey (.string x.data.toList)) hs := by
  refine ⟨h.nodup, fun l => (h.mem l).trans ?_⟩
  constructor
  · rintro ⟨p, h1, h2, h3, h4⟩
    exact ⟨p, h1, h2, h3, left_next.2 (.inl h4)⟩
  · rintro ⟨p, h1, h2, h3, h4⟩
    rcases left_next.1 h4 with h4 | h4
    · exact ⟨p, h1, h2, h3, h4⟩
    · rw [bytes_ext h4] at h2; exact absurd hx h2
theorem Part.done {wd : Int} {Q : ByteArray → Prop} {its : Itms} {left : Lit → Bool} {hs : List Lv} (h : Part wd Q its left hs) (hl : ∀ k, left k = false) : HeapIs wd Q its hs := ⟨h.nodup, fun l => (h.mem l).trans ⟨fun ⟨p, h1, h2, h3, _⟩ => ⟨p, h1, h2, h3⟩, fun ⟨p, h1, h2, h3⟩ => ⟨p, h1, h2, h3, hl _⟩⟩⟩
end Go.Proofs.YtlnkhbnbcmllaaaGreat
/- A map of items is told by what it has: it is the map that the items are put into one by one. -/
namespace Go.Proofs.YtlnkhbnbcmllaaaGreat
open Go.RowKit
/-! What has been given away -/
structure GoneR (wd : Int) (its its' : Itms) (gone : List ByteArray) : Prop where
  mem : ∀ p, p ∈ its' ↔ p ∈ its ∧ sumX wd p.1 ∉ gone
theorem GoneR.step {wd : Int} {its its' : Itms} {gone : List ByteArray} (hN : (sumsL wd its').Pairwise (· < ·)) (h : GoneR wd its its' gone) {i : Nat} (hi : i < its'.length) : GoneR wd its (its'.eraseIdx i) (gone ++ [sumX wd (itx its' i)]) := by
  refine ⟨fun p => ?_⟩
  rw [mem_erase hN i hi, h.mem]
  rw [List.mem_append, List.mem_singleton]
  constructor
  · rintro ⟨⟨h1, h2⟩, h3⟩
    refine ⟨h1, fun e => e.elim h2 fun e => h3 ?_⟩
    have hp : p ∈ its' := (h.mem p).2 ⟨h1, h2⟩
    obtain ⟨j, hj, rfl⟩ := List.getElem_of_mem hp
    have := sums_inj (n := wd) hN hj hi (by rw [itx_get its' j hj, e])
    subst this
    rfl
  · rintro ⟨h1, h2⟩
    refine ⟨⟨h1, fun e => h2 (.inl e)⟩, fun e => h2 (.inr ?_)⟩
    rw [e, itx_get its' i hi]
end Go.Proofs.YtlnkhbnbcmllaaaGreat
/- impl.hasRoom and (*impl.shelf).makeRoom. -/
namespace Go.Proofs.YtlnkhbnbcmllaaaGreat
open Go.RowKit
end Go.Proofs.YtlnkhbnbcmllaaaGreat
