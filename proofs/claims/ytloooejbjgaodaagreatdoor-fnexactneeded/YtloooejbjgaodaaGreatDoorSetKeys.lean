/- slices.Sorted of maps.Keys of a set of texts, laid at this program. -/
import Derived.Test.YtloooejbjgaodaaGreatDoorGetImpl
namespace Go.Proofs.YtloooejbjgaodaaGreatDoor
open Go.RowKit Go.Maps Go.Sort Go.Shelf
/-- How the empty struct reads as an element of a map. -/
def unitE (v : Value) : Option (DataW Unit × List MemPlace) :=
  match v with
  | .agg cs => (match cs.toList with
    | [] => some (.agg [], [])
    | _ => none)
  | _ => none
theorem unitE_mk : unitE (.agg #[]) = some (.agg [], []) := rfl
/-- The keys of a map, sorted. -/
theorem sorted_set {w : World} {b m : Nat} {D : DataW Unit} (hown : w.ownsMap Tryz.prog 9 unitE b m D) (ht : Maps.Tidy D) {S : List (List UInt8)} (hS : S.Pairwise (· < ·)) (hm : ∀ x, x ∈ S ↔ Maps.has D (.string x) = true) {ss : List (List UInt8)} (hp : ss.Perm (strKeys D)) :
    ss.mergeSort (fun x y => decide (x ≤ y)) = S := by
  obtain ⟨es, rfl, he⟩ := ht
  have hk : ∀ p ∈ es, ∃ x, p.1 = .string x := by
    obtain ⟨es', e', hk'⟩ := hown.keysOf
    cases e'
    intro p hp
    obtain ⟨key, hkey⟩ := hk' p hp
    obtain ⟨x, _, h2, _⟩ := Maps.keyOf_str Tryz.underlying9 hkey
    exact ⟨x, h2⟩
  have hnd : S.Nodup := hS.imp fun h e => by subst e; exact List.lt_irrefl _ h
  have h1 : ss.Perm S := hp.trans (perm_strKeys he hk hnd hm).symm
  rw [mergeSort_of_perm h1]
  refine List.mergeSort_of_pairwise (hS.imp fun h => ?_)
  simpa using List.le_of_lt h
def sRen7 : Go.Shelf.Ren := ⟨fun | 7 => 77 | 10 => 117 | n => n, fun | 23 => 116 | 26 => 9 | 3 => 117 | 28 => 114 | 0 => 0 | 27 => 113 | 33 => 157 | 4 => 4 | n => n, fun | n => n⟩
theorem sLays7 : SlLaysZ.n7 Tryz.prog sRen7 where
  mixed := by kernel_rfl
  f7 := ⟨Tryz.f77.name, by kernel_rfl, Tryz.func77.trans (congrArg some (by kernel_rfl))⟩
  f10 := ⟨Tryz.f117.name, by kernel_rfl, Tryz.func117.trans (congrArg some (by kernel_rfl))⟩
  t0 := by kernel_rfl
  a0 := fun _ => by kernel_rfl
  z0 := fun _ => by kernel_rfl
  v0 := fun _ => by kernel_rfl
  t4 := by kernel_rfl
  a4 := fun _ => by kernel_rfl
  z4 := fun _ => by kernel_rfl
  v4 := fun _ => by kernel_rfl
  t23 := by kernel_rfl
  a23 := fun _ => by kernel_rfl
  z23 := fun _ => by kernel_rfl
  v23 := fun _ => by kernel_rfl
  t26 := by kernel_rfl
  a26 := fun _ => by kernel_rfl
  z26 := fun _ => by kernel_rfl
  v26 := fun _ => by kernel_rfl
  t27 := by kernel_rfl
  a27 := fun _ => by kernel_rfl
  z27 := fun _ => by kernel_rfl
  v27 := fun _ => by kernel_rfl
  t28 := by kernel_rfl
  a28 := fun _ => by kernel_rfl
  z28 := fun _ => by kernel_rfl
  v28 := fun _ => by kernel_rfl
  t33 := by kernel_rfl
  a33 := fun _ => by kernel_rfl
  z33 := fun _ => by kernel_rfl
  v33 := fun _ => by kernel_rfl
theorem sKeys (mb : Option Nat) (W : World) : CallsIn Fence.wide 5 Tryz.prog 77 #[.map mb] W fun e w' => e = .returned (.func (.func 117) #[] #[.pointer (some ⟨W.heap.size, 0, none⟩)]) ∧ w' = W.alloc (.cells #[.map mb] 116) :=
  AnyZ.keys_in sLays7 Fence.wide 5 trivial rfl mb W
set_option maxHeartbeats 1000000 in
theorem sSorted {H : Type} (b nn : Nat) (D0 : DataW H) (R : Value → Option (DataW H × List MemPlace)) (w : World) (hown : w.ownsMap Tryz.prog 9 R b nn D0) (hmax : Maps.size D0 ≤ maxLen) (hbytes : Maps.size D0 * 16 ≤ 140737488355328) :
    CallsIn Fence.wide 5 Tryz.prog 76 #[.func (.func 117) #[] #[.pointer (some ⟨w.heap.size, 0, none⟩)]] (w.alloc (.cells #[.map (some b)] 116)) fun e w' => ∃ (v : Value) (ss : List (List UInt8)), e = .returned v ∧ ss.Perm (strKeys D0) ∧
      w'.ownsRow (w.alloc (.cells #[.map (some b)] 116)).heap.size 9 1 v ss.length ((ss.mergeSort (fun x y => decide (x ≤ y))).map encStr) ∧ (v = .slice none 0 0 ↔ ss = []) ∧ Below (w.alloc (.cells #[.map (some b)] 116)).heap.size (w.alloc (.cells #[.map (some b)] 116)) w' := by
  have hbl := hown.lt
  have hseq : SeqGives Fence.wide 2 Tryz.prog 117 #[.pointer (some ⟨w.heap.size, 0, none⟩)] encStr (fun ss => ss.Perm (strKeys D0)) (Maps.size D0) (w.alloc (.cells #[.map (some b)] 116)) :=
    AnyZ.keys_gives (ρ := sRen7) { sLays7 with } Fence.wide _ trivial rfl (by omega) w.heap.size b nn D0 _ (by simp) (by simp) (by
      obtain ⟨es, clock, hb, Ft, hs, hD⟩ := hown
      exact ⟨es, clock, (Below.heap_alloc _ _ b hbl).trans hb, Ft, hs, hD⟩)
  exact AnyZ.sorted_in kLays6 Fence.wide 5 trivial trivial trivial trivial rfl (by omega) (kSorts _) (enters_of Tryz.func116 (by kernel_rfl) rfl) 117 #[.pointer (some ⟨w.heap.size, 0, none⟩)] trivial (enters_of Tryz.func117 (by kernel_rfl) rfl) _ _ hmax hbytes _ hseq
theorem setKeys_any (mb : Nat) (W : World) : Calls Tryz.prog 77 #[.map (some mb)] W fun e w' => e = .returned (.func (.func 117) #[] #[.pointer (some ⟨W.heap.size, 0, none⟩)]) ∧ w' = W.alloc (.cells #[.map (some mb)] 116) := callsIn_wide.1 (sKeys (some mb) W)
theorem setSorted_any (b nn : Nat) (D : DataW Unit) (w : World) (hown : w.ownsMap Tryz.prog 9 unitE b nn D) (ht : Maps.Tidy D) (S : List (List UInt8)) (hS : S.Pairwise (· < ·)) (hm : ∀ x, x ∈ S ↔ Maps.has D (.string x) = true) (hl : S.length ≤ 1048576) :
    Calls Tryz.prog 76 #[.func (.func 117) #[] #[.pointer (some ⟨w.heap.size, 0, none⟩)]] (w.alloc (.cells #[.map (some b)] 116)) fun e w' => ∃ v, e = .returned v ∧ w'.ownsRow (w.heap.size + 1) 9 1 v S.length (S.map encStr) ∧ Below (w.heap.size + 1) (w.alloc (.cells #[.map (some b)] 116)) w' := by
  have hsz : Maps.size D = S.length := by
    obtain ⟨es, rfl, he⟩ := ht
    have hk : ∀ p ∈ es, ∃ x, p.1 = .string x := by
      obtain ⟨es', e', hk'⟩ := hown.keysOf
      cases e'
      intro p hp
      obtain ⟨key, hkey⟩ := hk' p hp
      obtain ⟨x, _, h2, _⟩ := Maps.keyOf_str Tryz.underlying9 hkey
      exact ⟨x, h2⟩
    have hnd : S.Nodup := hS.imp fun h e => by subst e; exact List.lt_irrefl _ h
    have := (perm_strKeys he hk hnd hm).length_eq
    rw [this]
    simp [Maps.size, strKeys]
  refine (callsIn_wide.1 (sSorted b nn D unitE w hown (by rw [hsz]; unfold maxLen; omega) (by omega))).mono ?_
  rintro e w' ⟨v, ss, rfl, hp, hrow, _, hb⟩
  have hso := sorted_set hown ht hS hm hp
  have hln : ss.length = S.length := by rw [← hso, List.length_mergeSort]
  rw [hso, hln, World.size_alloc] at hrow
  rw [World.size_alloc] at hb
  exact ⟨v, rfl, hrow, hb⟩
end Go.Proofs.YtloooejbjgaodaaGreatDoor
