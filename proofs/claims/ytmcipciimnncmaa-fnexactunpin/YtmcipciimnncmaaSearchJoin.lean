/- slices.BinarySearch at []string and strings.Join, laid at this program. -/
import Derived.Shelf.Spec.SearchS
import Derived.Shelf.Strings.OnBuilder
import Derived.Test.YtmcipciimnncmaaOrder
namespace Go.Proofs.Ytmcipciimnncmaa
open Go.RowKit Go.Shelf
def sRen : Ren := { f := fun n => if n = 26 then 64 else if n = 33 then 74 else if n = 34 then 75 else if n = 38 then 82 else n, t := fun n => if n = 24 then 23 else if n = 40 then 101 else n, g := fun n => n }
theorem sLays : Lays2.n26 Try.prog sRen where
  mixed := by kernel_rfl
  f26 := by kernel_rfl
  f33 := by kernel_rfl
  f34 := by kernel_rfl
  f38 := by kernel_rfl
  t0 := by kernel_rfl
  a0 := fun _ => by kernel_rfl
  z0 := fun _ => by kernel_rfl
  v0 := fun _ => by kernel_rfl
  t3 := by kernel_rfl
  a3 := fun _ => by kernel_rfl
  z3 := fun _ => by kernel_rfl
  v3 := fun _ => by kernel_rfl
  t4 := by kernel_rfl
  a4 := fun _ => by kernel_rfl
  z4 := fun _ => by kernel_rfl
  v4 := fun _ => by kernel_rfl
  t9 := by kernel_rfl
  a9 := fun _ => by kernel_rfl
  z9 := fun _ => by kernel_rfl
  v9 := fun _ => by kernel_rfl
  t24 := by kernel_rfl
  a24 := fun _ => by kernel_rfl
  z24 := fun _ => by kernel_rfl
  v24 := fun _ => by kernel_rfl
  t40 := by kernel_rfl
  a40 := fun _ => by kernel_rfl
  z40 := fun _ => by kernel_rfl
  v40 := fun _ => by kernel_rfl
/-- The search in an ascending list: how many are less. -/
theorem search_any (b off c : Nat) (ts : List ByteArray) (x : ByteArray) (w : World) (hA : Asc ts) (hl : ts.length ≤ 1048576) (hc : ∀ j, j < ts.length → w.cell? ⟨b, off + j, none⟩ = some (.string (tv ts j))) :
    Calls Try.prog 64 #[.slice (some ⟨b, off, none⟩) ts.length c, .string x] w fun e w' => (∃ q, e = .returned (.tuple #[.int .i64 (cutN x ts : Nat), .bool q]) ∧ (q = true ↔ cutN x ts < ts.length ∧ tv ts (cutN x ts) = x)) ∧ ∃ q, w' = w.drewN q := by
  have h := Any2.slices_BinarySearch_string sLays b off ts.length c (fun t => if t < ts.length then tv ts t else x) x w (by omega) (fun j hj => by rw [if_pos hj]; exact hc j hj)
  rw [search_cut x ts hA] at h
  refine h.mono fun e w' ⟨he, hw⟩ => ⟨⟨_, he, ?_⟩, hw⟩
  rw [decide_eq_true_iff]
  constructor
  · rintro ⟨h1, h2⟩
    rw [if_pos h1] at h2
    exact ⟨h1, h2⟩
  · rintro ⟨h1, h2⟩
    rw [if_pos h1]
    exact ⟨h1, h2⟩
theorem search_none (a : Option Addr) (c : Nat) (x : ByteArray) (w : World) : Calls Try.prog 64 #[.slice a 0 c, .string x] w fun e w' => e = .returned (.tuple #[.int .i64 0, .bool false]) ∧ w' = w :=
  Any2.slices_BinarySearch_string_empty sLays a c x w
theorem join_flat : ∀ xs : List (List UInt8), Lib.join xs [] = xs.flatten
  | [] => rfl
  | x :: r => by
    rw [Lib.join_cons]
    simp [Lib.joinTail]
end Go.Proofs.Ytmcipciimnncmaa
