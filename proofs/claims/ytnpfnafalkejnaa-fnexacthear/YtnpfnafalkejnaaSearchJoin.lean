/- slices.BinarySearch at []string and strings.Join, laid at this program. -/
import Derived.Shelf.Spec.SearchS
import Derived.Shelf.Strings.OnBuilder
import Derived.Test.YtnpfnafalkejnaaOrder
namespace Go.Proofs.Ytnpfnafalkejnaa
open Go.RowKit Go.Shelf
def sRen : Ren := { f := fun n => if n = 26 then 49 else if n = 33 then 54 else if n = 34 then 55 else if n = 38 then 59 else n, t := fun n => if n = 24 then 22 else if n = 40 then 77 else n, g := fun n => n }
theorem sLays : Lays2.n26 Try.prog sRen where
  mixed := by kernel_rfl
  f26 := by kernel_rfl
  f33 := by kernel_rfl
  f34 := by kernel_rfl
  f38 := by kernel_rfl
  t0 := by kernel_rfl
  a0 := fun _ => by kernel_rfl
  z0 := fun _ => by kernel_rfl
  v0 := fun _ => by kernel_rfl
  t3 := by kernel_rfl
  a3 := fun _ => by kernel_rfl
  z3 := fun _ => by kernel_rfl
  v3 := fun _ => by kernel_rfl
  t4 := by kernel_rfl
  a4 := fun _ => by kernel_rfl
  z4 := fun _ => by kernel_rfl
  v4 := fun _ => by kernel_rfl
  t9 := by kernel_rfl
  a9 := fun _ => by kernel_rfl
  z9 := fun _ => by kernel_rfl
  v9 := fun _ => by kernel_rfl
  t24 := by kernel_rfl
  a24 := fun _ => by kernel_rfl
  z24 := fun _ => by kernel_rfl
  v24 := fun _ => by kernel_rfl
  t40 := by kernel_rfl
  a40 := fun _ => by kernel_rfl
  z40 := fun _ => by kernel_rfl
  v40 := fun _ => by kernel_rfl
/-- The search in an ascending list: how many are less. -/
theorem search_any (b off c : Nat) (ts : List ByteArray) (x : ByteArray) (w : World) (hA : Asc ts) (hl : ts.length ≤ 1048576) (hc : ∀ j, j < ts.length → w.cell? ⟨b, off + j, none⟩ = some (.string (tv ts j))) :
    Calls Try.prog 49 #[.slice (some ⟨b, off, none⟩) ts.length c, .string x] w fun e w' => (∃ q, e = .returned (.tuple #[.int .i64 (cutN x ts : Nat), .bool q]) ∧ (q = true ↔ cutN x ts < ts.length ∧ tv ts (cutN x ts) = x)) ∧ ∃ q, w' = w.drewN q := by
  have h := Any2.slices_BinarySearch_string sLays b off ts.length c (fun t => if t < ts.length then tv ts t else x) x w (by omega) (fun j hj => by rw [if_pos hj]; exact hc j hj)
  rw [search_cut x ts hA] at h
  refine h.mono fun e w' ⟨he, hw⟩ => ⟨⟨_, he, ?_⟩, hw⟩
  rw [decide_eq_true_iff]
  constructor
  · rintro ⟨h1, h2⟩
    rw [if_pos h1] at h2
    exact ⟨h1, h2⟩
  · rintro ⟨h1, h2⟩
    rw [if_pos h1]
    exact ⟨h1, h2⟩
theorem search_none (a : Option Addr) (c : Nat) (x : ByteArray) (w : World) : Calls Try.prog 49 #[.slice a 0 c, .string x] w fun e w' => e = .returned (.tuple #[.int .i64 0, .bool false]) ∧ w' = w :=
  Any2.slices_BinarySearch_string_empty sLays a c x w
def jRen : Ren := { f := fun n => if n = 156 then 42 else if n = 165 then 51 else if n = 166 then 52 else if n = 169 then 53 else if n = 240 then 57 else if n = 241 then 58 else if n = 276 then 61 else if n = 277 then 62 else n, t := fun n => if n = 31 then 22 else if n = 37 then 53 else if n = 70 then 67 else if n = 72 then 69 else if n = 75 then 72 else if n = 76 then 73 else if n = 80 then 75 else if n = 127 then 76 else if n = 164 then 81 else n, g := fun n => n }
theorem jLays : Lays.n156 Try.prog jRen where
  mixed := by kernel_rfl
  f156 := by kernel_rfl
  f165 := by kernel_rfl
  f166 := by kernel_rfl
  f169 := by kernel_rfl
  f240 := by kernel_rfl
  f241 := by kernel_rfl
  f276 := by kernel_rfl
  f277 := by kernel_rfl
  t0 := by kernel_rfl
  a0 := fun _ => by kernel_rfl
  z0 := fun _ => by kernel_rfl
  v0 := fun _ => by kernel_rfl
  t3 := by kernel_rfl
  a3 := fun _ => by kernel_rfl
  z3 := fun _ => by kernel_rfl
  v3 := fun _ => by kernel_rfl
  t4 := by kernel_rfl
  a4 := fun _ => by kernel_rfl
  z4 := fun _ => by kernel_rfl
  v4 := fun _ => by kernel_rfl
  t9 := by kernel_rfl
  a9 := fun _ => by kernel_rfl
  z9 := fun _ => by kernel_rfl
  v9 := fun _ => by kernel_rfl
  t20 := by kernel_rfl
  a20 := fun _ => by kernel_rfl
  z20 := fun _ => by kernel_rfl
  v20 := fun _ => by kernel_rfl
  t31 := by kernel_rfl
  a31 := fun _ => by kernel_rfl
  z31 := fun _ => by kernel_rfl
  v31 := fun _ => by kernel_rfl
  t37 := by kernel_rfl
  a37 := fun _ => by kernel_rfl
  z37 := fun _ => by kernel_rfl
  v37 := fun _ => by kernel_rfl
  t70 := by kernel_rfl
  a70 := fun _ => by kernel_rfl
  z70 := fun _ => by kernel_rfl
  v70 := fun _ => by kernel_rfl
  t72 := by kernel_rfl
  a72 := fun _ => by kernel_rfl
  z72 := fun _ => by kernel_rfl
  v72 := fun _ => by kernel_rfl
  t75 := by kernel_rfl
  a75 := fun _ => by kernel_rfl
  z75 := fun _ => by kernel_rfl
  v75 := fun _ => by kernel_rfl
  t76 := by kernel_rfl
  a76 := fun _ => by kernel_rfl
  z76 := fun _ => by kernel_rfl
  v76 := fun _ => by kernel_rfl
  t127 := by kernel_rfl
  a127 := fun _ => by kernel_rfl
  z127 := fun _ => by kernel_rfl
  v127 := fun _ => by kernel_rfl
  t164 := by kernel_rfl
  a164 := fun _ => by kernel_rfl
  z164 := fun _ => by kernel_rfl
  v164 := fun _ => by kernel_rfl
theorem jExtra : Builder.Extra Try.prog jRen where
  sizeBuilder := by kernel_rfl
  liesBuilder := by kernel_rfl
  t5 := by kernel_rfl
  a5 := fun _ => by kernel_rfl
  z5 := fun _ => by kernel_rfl
  v5 := fun _ => by kernel_rfl
  infoByte := by kernel_rfl
  cellsByte := by kernel_rfl
  sizeByte := by kernel_rfl
  neB5 := by decide
theorem join_flat : ∀ xs : List (List UInt8), Lib.join xs [] = xs.flatten
  | [] => rfl
  | x :: r => by
    rw [Lib.join_cons]
    simp [Lib.joinTail]
theorem join_any (b off c : Nat) (ts : List ByteArray) (w : World) (hb : b < w.heap.size) (hl : ts.length ≤ 500) (hcap : ts.length ≤ c) (hsz : ∀ t ∈ ts, t.size ≤ 8) (hc : ∀ j, j < ts.length → w.cell? ⟨b, off + j, none⟩ = some (.string (tv ts j))) :
    Calls Try.prog 42 #[.slice (some ⟨b, off, none⟩) ts.length c, .string ⟨#[]⟩] w fun e w' => e = .returned (.string ⟨(joinB ts).toArray⟩) ∧ Below w.heap.size w w' := by
  have hj : Lib.join (ts.map (·.data.toList)) (⟨#[]⟩ : ByteArray).data.toList = joinB ts := join_flat _
  have hlen : (joinB ts).length ≤ 4000 := Nat.le_trans (joinB_len 8 ts hsz) (by omega)
  have h := Any.strings_Join jLays jExtra b off c ts ⟨#[]⟩ w (fun j x hx => by
    obtain ⟨h1, h2⟩ := List.getElem?_eq_some_iff.1 hx
    rw [hc j h1]
    simp [tv, h1, h2]) hb (by omega) hcap (by rw [hj]; omega)
  rw [hj] at h
  exact h
theorem join_none (a : Option Addr) (c : Nat) (w : World) : Calls Try.prog 42 #[.slice a 0 c, .string ⟨#[]⟩] w fun e w' => e = .returned (.string ⟨#[]⟩) ∧ w' = w :=
  Any.strings_Join_none jLays jExtra a c ⟨#[]⟩ w
end Go.Proofs.Ytnpfnafalkejnaa
