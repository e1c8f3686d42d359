import Derived.Test.YtlnkhbnbcmllaaaGreatGetImpl
/- slices.Sorted of maps.Keys of a set of texts, laid at this program. -/
namespace Go.Proofs.YtlnkhbnbcmllaaaGreat
open Go.RowKit Go.Maps Go.Sort Go.Shelf
end Go.Proofs.YtlnkhbnbcmllaaaGreat
/- A set of texts as a map[string]struct{}. -/
namespace Go.Proofs.YtlnkhbnbcmllaaaGreat
open Go.RowKit Go.Sort
/-- A set of texts as a map. -/
structure SetIs (D : DataW Unit) (Q : ByteArray → Prop) : Prop where
  tidy : Maps.Tidy D
  has : ∀ x : ByteArray, Maps.has D (.string x.data.toList) = true ↔ Q x
theorem SetIs.none {Q : ByteArray → Prop} (h : ∀ x, ¬ Q x) : SetIs (.map []) Q := ⟨Maps.tidy_empty, fun x => ⟨fun k => by simp [Maps.has_eq] at k, fun k => absurd k (h x)⟩⟩
theorem SetIs.put {D : DataW Unit} {Q R : ByteArray → Prop} (h : SetIs D Q) (p : ByteArray) (hR : ∀ x, R x ↔ x = p ∨ Q x) (d : DataW Unit) : SetIs (D.put (.string p.data.toList) d) R := by
  refine ⟨h.tidy.put (key_lit9 _) _, fun x => ?_⟩
  rw [hR]
  by_cases e : x = p
  · subst e
    exact ⟨fun _ => .inl rfl, fun _ => Maps.has_put_same h.tidy.isMap (key_lit9 _) _⟩
  · rw [Maps.has_put_other (k := .string p.data.toList) (k' := .string x.data.toList) (fun e2 => e (ByteArray.ext (by injection e2 with e3; simpa using e3))), h.has]
    exact ⟨.inr, fun k => k.elim (fun k => absurd k e) id⟩
end Go.Proofs.YtlnkhbnbcmllaaaGreat
