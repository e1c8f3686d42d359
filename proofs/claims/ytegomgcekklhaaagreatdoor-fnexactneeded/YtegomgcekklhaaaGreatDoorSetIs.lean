import Derived.Test.YtegomgcekklhaaaGreatDoorNeedMath
/- slices.Sorted of maps.Keys of a set of texts, laid at this program. -/
namespace Go.Proofs.YtegomgcekklhaaaGreatDoor
open Go.RowKit Go.Maps Go.Sort Go.Shelf
/-- How the empty struct reads as an element of a map. -/
def unitE (v : Value) : Option (DataW Unit × List MemPlace) :=
  match v with
  | .agg cs => (match cs.toList with
    | [] => some (.agg [], [])
    | _ => none)
  | _ => none
theorem unitE_mk : unitE (.agg #[]) = some (.agg [], []) := rfl
/-- The keys of a map, sorted. -/
theorem sorted_set {w : World} {b m : Nat} {D : DataW Unit} (hown : w.ownsMap Tryz.prog 9 unitE b m D) (ht : Maps.Tidy D) {S : List (List UInt8)} (hS : S.Pairwise (· < ·)) (hm : ∀ x, x ∈ S ↔ Maps.has D (.string x) = true) {ss : List (List UInt8)} (hp : ss.Perm (strKeys D)) :
    ss.mergeSort (fun x y => decide (x ≤ y)) = S := by
  obtain ⟨es, rfl, he⟩ := ht
  have hk : ∀ p ∈ es, ∃ x, p.1 = .string x := by
    obtain ⟨es', e', hk'⟩ := hown.keysOf
    cases e'
    intro p hp
    obtain ⟨key, hkey⟩ := hk' p hp
    obtain ⟨x, _, h2, _⟩ := Maps.keyOf_str Tryz.underlying9 hkey
    exact ⟨x, h2⟩
  have hnd : S.Nodup := hS.imp fun h e => by subst e; exact List.lt_irrefl _ h
  have h1 : ss.Perm S := hp.trans (perm_strKeys he hk hnd hm).symm
  rw [mergeSort_of_perm h1]
  refine List.mergeSort_of_pairwise (hS.imp fun h => ?_)
  simpa using List.le_of_lt h
def sRen7 : Go.Shelf.Ren := ⟨fun | 7 => 22 | 10 => 44 | n => n, fun | 23 => 48 | 26 => 9 | 3 => 49 | 28 => 46 | 0 => 0 | 27 => 45 | 33 => 72 | 4 => 4 | n => n, fun | n => n⟩
theorem sLays7 : SlLaysZ.n7 Tryz.prog sRen7 where
  mixed := by kernel_rfl
  f7 := ⟨Tryz.f22.name, by kernel_rfl, Tryz.func22.trans (congrArg some (by kernel_rfl))⟩
  f10 := ⟨Tryz.f44.name, by kernel_rfl, Tryz.func44.trans (congrArg some (by kernel_rfl))⟩
  t0 := by kernel_rfl
  a0 := fun _ => by kernel_rfl
  z0 := fun _ => by kernel_rfl
  v0 := fun _ => by kernel_rfl
  t4 := by kernel_rfl
  a4 := fun _ => by kernel_rfl
  z4 := fun _ => by kernel_rfl
  v4 := fun _ => by kernel_rfl
  t23 := by kernel_rfl
  a23 := fun _ => by kernel_rfl
  z23 := fun _ => by kernel_rfl
  v23 := fun _ => by kernel_rfl
  t26 := by kernel_rfl
  a26 := fun _ => by kernel_rfl
  z26 := fun _ => by kernel_rfl
  v26 := fun _ => by kernel_rfl
  t27 := by kernel_rfl
  a27 := fun _ => by kernel_rfl
  z27 := fun _ => by kernel_rfl
  v27 := fun _ => by kernel_rfl
  t28 := by kernel_rfl
  a28 := fun _ => by kernel_rfl
  z28 := fun _ => by kernel_rfl
  v28 := fun _ => by kernel_rfl
  t33 := by kernel_rfl
  a33 := fun _ => by kernel_rfl
  z33 := fun _ => by kernel_rfl
  v33 := fun _ => by kernel_rfl
theorem sKeys (mb : Option Nat) (W : World) : CallsIn Fence.wide 5 Tryz.prog 22 #[.map mb] W fun e w' => e = .returned (.func (.func 44) #[] #[.pointer (some ⟨W.heap.size, 0, none⟩)]) ∧ w' = W.alloc (.cells #[.map mb] 48) :=
  AnyZ.keys_in sLays7 Fence.wide 5 trivial rfl mb W
set_option maxHeartbeats 1000000 in
theorem sSorted {H : Type} (b nn : Nat) (D0 : DataW H) (R : Value → Option (DataW H × List MemPlace)) (w : World) (hown : w.ownsMap Tryz.prog 9 R b nn D0) (hmax : Maps.size D0 ≤ maxLen) (hbytes : Maps.size D0 * 16 ≤ 140737488355328) :
    CallsIn Fence.wide 5 Tryz.prog 21 #[.func (.func 44) #[] #[.pointer (some ⟨w.heap.size, 0, none⟩)]] (w.alloc (.cells #[.map (some b)] 48)) fun e w' => ∃ (v : Value) (ss : List (List UInt8)), e = .returned v ∧ ss.Perm (strKeys D0) ∧
      w'.ownsRow (w.alloc (.cells #[.map (some b)] 48)).heap.size 9 1 v ss.length ((ss.mergeSort (fun x y => decide (x ≤ y))).map encStr) ∧ (v = .slice none 0 0 ↔ ss = []) ∧ Below (w.alloc (.cells #[.map (some b)] 48)).heap.size (w.alloc (.cells #[.map (some b)] 48)) w' := by
  have hbl := hown.lt
  have hseq : SeqGives Fence.wide 2 Tryz.prog 44 #[.pointer (some ⟨w.heap.size, 0, none⟩)] encStr (fun ss => ss.Perm (strKeys D0)) (Maps.size D0) (w.alloc (.cells #[.map (some b)] 48)) :=
    AnyZ.keys_gives (ρ := sRen7) { sLays7 with } Fence.wide _ trivial rfl (by omega) w.heap.size b nn D0 _ (by simp) (by simp) (by
      obtain ⟨es, clock, hb, Ft, hs, hD⟩ := hown
      exact ⟨es, clock, (Below.heap_alloc _ _ b hbl).trans hb, Ft, hs, hD⟩)
  exact AnyZ.sorted_in kLays6 Fence.wide 5 trivial trivial trivial trivial rfl (by omega) (kSorts _) (enters_of Tryz.func43 (by kernel_rfl) rfl) 44 #[.pointer (some ⟨w.heap.size, 0, none⟩)] trivial (enters_of Tryz.func44 (by kernel_rfl) rfl) _ _ hmax hbytes _ hseq
theorem setKeys_any (mb : Nat) (W : World) : Calls Tryz.prog 22 #[.map (some mb)] W fun e w' => e = .returned (.func (.func 44) #[] #[.pointer (some ⟨W.heap.size, 0, none⟩)]) ∧ w' = W.alloc (.cells #[.map (some mb)] 48) := callsIn_wide.1 (sKeys (some mb) W)
theorem setSorted_any (b nn : Nat) (D : DataW Unit) (w : World) (hown : w.ownsMap Tryz.prog 9 unitE b nn D) (ht : Maps.Tidy D) (S : List (List UInt8)) (hS : S.Pairwise (· < ·)) (hm : ∀ x, x ∈ S ↔ Maps.has D (.string x) = true) (hl : S.length ≤ 1048576) :
    Calls Tryz.prog 21 #[.func (.func 44) #[] #[.pointer (some ⟨w.heap.size, 0, none⟩)]] (w.alloc (.cells #[.map (some b)] 48)) fun e w' => ∃ v, e = .returned v ∧ w'.ownsRow (w.heap.size + 1) 9 1 v S.length (S.map encStr) ∧ Below (w.heap.size + 1) (w.alloc (.cells #[.map (some b)] 48)) w' := by
  have hsz : Maps.size D = S.length := by
    obtain ⟨es, rfl, he⟩ := ht
    have hk : ∀ p ∈ es, ∃ x, p.1 = .string x := by
      obtain ⟨es', e', hk'⟩ := hown.keysOf
      cases e'
      intro p hp
      obtain ⟨key, hkey⟩ := hk' p hp
      obtain ⟨x, _, h2, _⟩ := Maps.keyOf_str Tryz.underlying9 hkey
      exact ⟨x, h2⟩
    have hnd : S.Nodup := hS.imp fun h e => by subst e; exact List.lt_irrefl _ h
    have := (perm_strKeys he hk hnd hm).length_eq
    rw [this]
    simp [Maps.size, strKeys]
  refine (callsIn_wide.1 (sSorted b nn D unitE w hown (by rw [hsz]; unfold maxLen; omega) (by omega))).mono ?_
  rintro e w' ⟨v, ss, rfl, hp, hrow, _, hb⟩
  have hso := sorted_set hown ht hS hm hp
  have hln : ss.length = S.length := by rw [← hso, List.length_mergeSort]
  rw [hso, hln, World.size_alloc] at hrow
  rw [World.size_alloc] at hb
  exact ⟨v, rfl, hrow, hb⟩
end Go.Proofs.YtegomgcekklhaaaGreatDoor
/- A set of texts as a map[string]struct{}. -/
namespace Go.Proofs.YtegomgcekklhaaaGreatDoor
open Go.RowKit Go.Sort
theorem makeSet (w : World) : (Instr.makeMap 48 none).run Tryz.prog w = .ok (.map (some w.heap.size)) (w.alloc (.map #[] 0)) := by
  simp [Instr.makeMap, go_sem]
/-- A set of texts as a map. -/
structure SetIs (D : DataW Unit) (Q : ByteArray → Prop) : Prop where
  tidy : Maps.Tidy D
  has : ∀ x : ByteArray, Maps.has D (.string x.data.toList) = true ↔ Q x
theorem SetIs.none {Q : ByteArray → Prop} (h : ∀ x, ¬ Q x) : SetIs (.map []) Q := ⟨Maps.tidy_empty, fun x => ⟨fun k => by simp [Maps.has_eq] at k, fun k => absurd k (h x)⟩⟩
theorem SetIs.put {D : DataW Unit} {Q R : ByteArray → Prop} (h : SetIs D Q) (p : ByteArray) (hR : ∀ x, R x ↔ x = p ∨ Q x) (d : DataW Unit) : SetIs (D.put (.string p.data.toList) d) R := by
  refine ⟨h.tidy.put (key_lit9 _) _, fun x => ?_⟩
  rw [hR]
  by_cases e : x = p
  · subst e
    exact ⟨fun _ => .inl rfl, fun _ => Maps.has_put_same h.tidy.isMap (key_lit9 _) _⟩
  · rw [Maps.has_put_other (k := .string p.data.toList) (k' := .string x.data.toList) (fun e2 => e (ByteArray.ext (by injection e2 with e3; simpa using e3))), h.has]
    exact ⟨.inr, fun k => k.elim (fun k => absurd k e) id⟩
theorem unitE_inv {v : Value} {d : DataW Unit} {ps : List MemPlace} (h : unitE v = some (d, ps)) : v = .agg #[] := by
  unfold unitE at h
  split at h
  · next cs =>
    split at h
    · next e => cases cs; simp only at e; subst e; rfl
    · cases h
  · cases h
theorem zvUnit (w : World) : (zeroValue 49).run Tryz.prog w = .ok (.agg #[]) w := by kernel_rfl
/-- '_, ok := m[k]' of a set of texts. -/
theorem wpList_look_unit {ops : Array Oper} {rest : List Oper} {o : Oper} {a : Act} {Q : Exit → Act → World → Prop} (w : World) (hg : o.guard = none) (m x : Operand) (hop : o.op = Op.lookup 48 m x true) (b n : Nat) (D : DataW Unit)
    (hm : a.eval m = .map (some b)) (hown : w.ownsMap Tryz.prog 9 unitE b n D) (s : ByteArray) (hs : s.size ≤ maxLen) (hx : a.eval x = .string s) (hh : Bool) (hhas : Maps.has D (.string s.data.toList) = hh)
    (hK : wpList Tryz.prog ops Q rest (a.put o.dst (.tuple #[.agg #[], .bool hh])) w) : wpList Tryz.prog ops Q (o :: rest) a w := by
  refine wpList_lookup_own_ok w hg m x 48 hop 9 49 keyed9 Tryz.underlying48 unitE (zvUnit w) (.agg []) [] unitE_mk b n D hm hown (.string s) _ hx (key9 s hs) ?_
  intro v ps hv
  obtain rfl := unitE_inv hv
  rw [hhas]
  exact hK
end Go.Proofs.YtegomgcekklhaaaGreatDoor
