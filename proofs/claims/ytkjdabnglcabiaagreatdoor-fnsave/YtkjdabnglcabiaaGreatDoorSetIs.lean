import Derived.Test.YtkjdabnglcabiaaGreatDoorPutMath
/- slices.Sorted of maps.Keys of a set of texts, laid at this program. -/
namespace Go.Proofs.YtkjdabnglcabiaaGreatDoor
open Go.RowKit Go.Maps Go.Sort Go.Shelf
/-- How the empty struct reads as an element of a map. -/
def unitE (v : Value) : Option (DataW Unit × List MemPlace) :=
 match v with
 | .agg cs => (match cs.toList with
  | [] => some (.agg [], [])
  | _ => none)
 | _ => none
theorem unitE_mk : unitE (.agg #[]) = some (.agg [], []) := rfl
end Go.Proofs.YtkjdabnglcabiaaGreatDoor
/- A set of texts as a map[string]struct{}. -/
namespace Go.Proofs.YtkjdabnglcabiaaGreatDoor
open Go.RowKit Go.Sort
theorem makeSet (w : World) : (Instr.makeMap 146 none).run Tryz.prog w = .ok (.map (some w.heap.size)) (w.alloc (.map #[] 0)) := by
 simp [Instr.makeMap, go_sem]
/-- A set of texts as a map. -/
structure SetIs (D : DataW Unit) (Q : ByteArray → Prop) : Prop where
 tidy : Maps.Tidy D
 has : ∀ x : ByteArray, Maps.has D (.string x.data.toList) = true ↔ Q x
theorem SetIs.none {Q : ByteArray → Prop} (h : ∀ x, ¬ Q x) : SetIs (.map []) Q := ⟨Maps.tidy_empty, fun x => ⟨fun k => by simp [Maps.has_eq] at k, fun k => absurd k (h x)⟩⟩
theorem SetIs.put {D : DataW Unit} {Q R : ByteArray → Prop} (h : SetIs D Q) (p : ByteArray) (hR : ∀ x, R x ↔ x = p ∨ Q x) (d : DataW Unit) : SetIs (D.put (.string p.data.toList) d) R := by
 refine ⟨h.tidy.put (key_lit9 _) _, fun x => ?_⟩
 rw [hR]
 by_cases e : x = p
 ·subst e
  exact ⟨fun _ => .inl rfl, fun _ => Maps.has_put_same h.tidy.isMap (key_lit9 _) _⟩
 ·rw [Maps.has_put_other (k := .string p.data.toList) (k' := .string x.data.toList) (fun e2 => e (ByteArray.ext (by injection e2 with e3; simpa using e3))), h.has]
  exact ⟨.inr, fun k => k.elim (fun k => absurd k e) id⟩
theorem unitE_inv {v : Value} {d : DataW Unit} {ps : List MemPlace} (h : unitE v = some (d, ps)) : v = .agg #[] := by
 unfold unitE at h
 split at h
 ·next cs =>
  split at h
  ·next e => cases cs; simp only at e; subst e; rfl
  ·cases h
 ·cases h
theorem zvUnit (w : World) : (zeroValue 152).run Tryz.prog w = .ok (.agg #[]) w := by kernel_rfl
/-- '_, ok := m[k]' of a set of texts. -/
theorem wpList_look_unit {ops : Array Oper} {rest : List Oper} {o : Oper} {a : Act} {Q : Exit → Act → World → Prop} (w : World) (hg : o.guard = none) (m x : Operand) (hop : o.op = Op.lookup 146 m x true) (b n : Nat) (D : DataW Unit)
  (hm : a.eval m = .map (some b)) (hown : w.ownsMap Tryz.prog 9 unitE b n D) (s : ByteArray) (hs : s.size ≤ maxLen) (hx : a.eval x = .string s) (hh : Bool) (hhas : Maps.has D (.string s.data.toList) = hh)
  (hK : wpList Tryz.prog ops Q rest (a.put o.dst (.tuple #[.agg #[], .bool hh])) w) : wpList Tryz.prog ops Q (o :: rest) a w := by
 refine wpList_lookup_own_ok w hg m x 146 hop 9 152 keyed9 Tryz.underlying146 unitE (zvUnit w) (.agg []) [] unitE_mk b n D hm hown (.string s) _ hx (key9 s hs) ?_
 intro v ps hv
 obtain rfl := unitE_inv hv
 rw [hhas]
 exact hK
end Go.Proofs.YtkjdabnglcabiaaGreatDoor
