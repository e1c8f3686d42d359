import Derived.Test.YtiidodobadamgaaGreatDoorNeedMath
import Derived.Test.YtiidodobadamgaaGreatDoorOrder
/- slices.Sorted of maps.Keys of a set of texts, laid at this program. -/
namespace Go.Proofs.YtiidodobadamgaaGreatDoor
open Go.RowKit Go.Maps Go.Sort Go.Shelf
/-- How the empty struct reads as an element of a map. -/
def unitE (v : Value) : Option (DataW Unit × List MemPlace) :=
  match v with
  | .agg cs => (match cs.toList with
    | [] => some (.agg [], [])
    | _ => none)
  | _ => none
theorem unitE_mk : unitE (.agg #[]) = some (.agg [], []) := rfl
/-- The keys of a map, sorted. -/
theorem sorted_set {w : World} {b m : Nat} {D : DataW Unit} (hown : w.ownsMap Tryz.prog 9 unitE b m D) (ht : Maps.Tidy D) {S : List (List UInt8)} (hS : S.Pairwise (· < ·)) (hm : ∀ x, x ∈ S ↔ Maps.has D (.string x) = true) {ss : List (List UInt8)} (hp : ss.Perm (strKeys D)) :
    ss.mergeSort (fun x y => decide (x ≤ y)) = S := by
  obtain ⟨es, rfl, he⟩ := ht
  have hk : ∀ p ∈ es, ∃ x, p.1 = .string x := by
    obtain ⟨es', e', hk'⟩ := hown.keysOf
    cases e'
    intro p hp
    obtain ⟨key, hkey⟩ := hk' p hp
    obtain ⟨x, _, h2, _⟩ := Maps.keyOf_str Tryz.underlying9 hkey
    exact ⟨x, h2⟩
  have hnd : S.Nodup := hS.imp fun h e => by subst e; exact List.lt_irrefl _ h
  have h1 : ss.Perm S := hp.trans (perm_strKeys he hk hnd hm).symm
  rw [mergeSort_of_perm h1]
  refine List.mergeSort_of_pairwise (hS.imp fun h => ?_)
  simpa using List.le_of_lt h
end Go.Proofs.YtiidodobadamgaaGreatDoor
/- A set of texts as a map[string]struct{}. -/
namespace Go.Proofs.YtiidodobadamgaaGreatDoor
open Go.RowKit Go.Sort
theorem makeSet (w : World) : (Instr.makeMap 202 none).run Tryz.prog w = .ok (.map (some w.heap.size)) (w.alloc (.map #[] 0)) := by
  simp [Instr.makeMap, go_sem]
/-- A set of texts as a map. -/
structure SetIs (D : DataW Unit) (Q : ByteArray → Prop) : Prop where
  tidy : Maps.Tidy D
  has : ∀ x : ByteArray, Maps.has D (.string x.data.toList) = true ↔ Q x
theorem SetIs.none {Q : ByteArray → Prop} (h : ∀ x, ¬ Q x) : SetIs (.map []) Q := ⟨Maps.tidy_empty, fun x => ⟨fun k => by simp [Maps.has_eq] at k, fun k => absurd k (h x)⟩⟩
theorem SetIs.put {D : DataW Unit} {Q R : ByteArray → Prop} (h : SetIs D Q) (p : ByteArray) (hR : ∀ x, R x ↔ x = p ∨ Q x) (d : DataW Unit) : SetIs (D.put (.string p.data.toList) d) R := by
  refine ⟨h.tidy.put (key_lit9 _) _, fun x => ?_⟩
  rw [hR]
  by_cases e : x = p
  · subst e
    exact ⟨fun _ => .inl rfl, fun _ => Maps.has_put_same h.tidy.isMap (key_lit9 _) _⟩
  · rw [Maps.has_put_other (k := .string p.data.toList) (k' := .string x.data.toList) (fun e2 => e (ByteArray.ext (by injection e2 with e3; simpa using e3))), h.has]
    exact ⟨.inr, fun k => k.elim (fun k => absurd k e) id⟩
theorem unitE_inv {v : Value} {d : DataW Unit} {ps : List MemPlace} (h : unitE v = some (d, ps)) : v = .agg #[] := by
  unfold unitE at h
  split at h
  · next cs =>
    split at h
    · next e => cases cs; simp only at e; subst e; rfl
    · cases h
  · cases h
theorem zvUnit (w : World) : (zeroValue 203).run Tryz.prog w = .ok (.agg #[]) w := by kernel_rfl
/-- '_, ok := m[k]' of a set of texts. -/
theorem wpList_look_unit {ops : Array Oper} {rest : List Oper} {o : Oper} {a : Act} {Q : Exit → Act → World → Prop} (w : World) (hg : o.guard = none) (m x : Operand) (hop : o.op = Op.lookup 202 m x true) (b n : Nat) (D : DataW Unit)
    (hm : a.eval m = .map (some b)) (hown : w.ownsMap Tryz.prog 9 unitE b n D) (s : ByteArray) (hs : s.size ≤ maxLen) (hx : a.eval x = .string s) (hh : Bool) (hhas : Maps.has D (.string s.data.toList) = hh)
    (hK : wpList Tryz.prog ops Q rest (a.put o.dst (.tuple #[.agg #[], .bool hh])) w) : wpList Tryz.prog ops Q (o :: rest) a w := by
  refine wpList_lookup_own_ok w hg m x 202 hop 9 203 keyed9 Tryz.underlying202 unitE (zvUnit w) (.agg []) [] unitE_mk b n D hm hown (.string s) _ hx (key9 s hs) ?_
  intro v ps hv
  obtain rfl := unitE_inv hv
  rw [hhas]
  exact hK
end Go.Proofs.YtiidodobadamgaaGreatDoor
/- spec.l2In, slices.Index and slices.Contains over texts. -/
namespace Go.Proofs.YtiidodobadamgaaGreatDoor
open Go.RowKit
def inB (ps : List ByteArray) (x : ByteArray) : Bool := ps.any fun p => p.toList == x.toList
theorem inB_iff (ps : List ByteArray) (x : ByteArray) : inB ps x = true ↔ x ∈ ps := by
  unfold inB
  rw [List.any_eq_true]
  constructor
  · rintro ⟨p, hp, h⟩
    have : p = x := text_eq (by simpa using h)
    rwa [← this]
  · exact fun h => ⟨x, h, by simp⟩
theorem inB_step (ps : List ByteArray) (x : ByteArray) (k : Nat) (hlt : k < ps.length) : inB (ps.take (k + 1)) x = (inB (ps.take k) x || ((ps.getD k ByteArray.empty).toList == x.toList)) := by
  unfold inB; rw [List.take_succ_eq_append_getElem hlt, List.any_append, List.getD_eq_getElem?_getD, List.getElem?_eq_getElem hlt]; simp
theorem inB_of (ps : List ByteArray) (x : ByteArray) (k : Nat) (hlt : k < ps.length) (h : ((ps.getD k ByteArray.empty).toList == x.toList) = true) : inB ps x = true := by
  unfold inB; rw [List.any_eq_true]; exact ⟨ps[k], List.getElem_mem hlt, by simpa [hlt] using h⟩
set_option maxRecDepth 100000 in
set_option maxHeartbeats 400000 in
theorem l2In_in (va : Value) (ps : List ByteArray) (x : ByteArray) (w : World) (ha : Reads w va ps) (hl : ps.length ≤ maxLen) :
    Calls Tryz.prog 28 #[va, .string x] w fun e w' => e = .returned (.bool (inB ps x)) ∧ w' = w := by
  unfold maxLen at hl
  obtain ⟨a, ca, rfl, hca⟩ := ha.form
  go_enter Tryz.func28, Tryz.ntmps28
  go_wp2
  go_loop [5] (fun i => ∃ k : Nat, k ≤ ps.length ∧ i = .int .i64 k ∧ inB (ps.take k) x = false) (fun i => ps.length - (intOf i).toNat)
  case atStart => exact ⟨0, Nat.zero_le _, rfl, by simp [inB]⟩
  case round =>
    obtain ⟨k, hk, rfl, hno⟩ := hrel
    by_cases hlt : k < ps.length
    · obtain ⟨b1, o1, rfl, hb1, hc1⟩ := hca k hlt
      have hsn := inB_step ps x k hlt
      have hall := inB_of ps x k hlt
      generalize ps.getD k ByteArray.empty = q at *
      have HN := hid hsn
      have HA := hid hall
      have HO := hid hno
      clear hsn hall hno hca ha
      cases hq : (q.toList == x.toList) with
      | true =>
        go_wp2
        go_ret
        rw [HA.out hq]
        exact ⟨by simp, rfl⟩
      | false =>
        go_wp2
        go_round
        case rel => exact ⟨k + 1, by omega, by go_num, by rw [HN.out, HO.out, hq]; rfl⟩
        case measure => simp [intOf]; omega
    · have e : inB ps x = false := by rw [List.take_of_length_le (by omega)] at hno; exact hno
      have HE := hid e
      clear e hno
      go_wp2
      go_ret
      rw [HE.out]
      exact ⟨rfl, rfl⟩
end Go.Proofs.YtiidodobadamgaaGreatDoor
