/- slices.Delete of one text; (*shelf).unpin. -/
import Derived.Shelf.Slices.Cells
import Derived.Test.YtmcipciimnncmaaGetLaw
import Derived.Test.YtmcipciimnncmaaSearchJoin
namespace Go.Proofs.Ytmcipciimnncmaa
open Go.RowKit Go.Shelf
def dRen : Ren := { f := fun n => if n = 24 then 65 else n, t := fun n => if n = 24 then 23 else n, g := fun n => n }
theorem dLays : Lays2.n24 Try.prog dRen where
  mixed := by kernel_rfl
  f24 := by kernel_rfl
  t0 := by kernel_rfl
  a0 := fun _ => by kernel_rfl
  z0 := fun _ => by kernel_rfl
  v0 := fun _ => by kernel_rfl
  t3 := by kernel_rfl
  a3 := fun _ => by kernel_rfl
  z3 := fun _ => by kernel_rfl
  v3 := fun _ => by kernel_rfl
  t4 := by kernel_rfl
  a4 := fun _ => by kernel_rfl
  z4 := fun _ => by kernel_rfl
  v4 := fun _ => by kernel_rfl
  t9 := by kernel_rfl
  a9 := fun _ => by kernel_rfl
  z9 := fun _ => by kernel_rfl
  v9 := fun _ => by kernel_rfl
  t24 := by kernel_rfl
  a24 := fun _ => by kernel_rfl
  z24 := fun _ => by kernel_rfl
  v24 := fun _ => by kernel_rfl
  i9 := by kernel_rfl
theorem grown_setCells (b : Nat) : ∀ (vs : List Value) (o : Nat) (w : World), w.grownBy (w.setCells b o vs) (some b)
  | [], _, w => grown_refl2 w _
  | v :: vs, o, w => grown_same (grownBy_setCellAt w b o v) (grown_setCells b vs (o + 1) _)
theorem deleteRow_any (g c i B : Nat) (ts : List ByteArray) (w : World) (hr : w.ownsRow B 9 1 (.slice (some ⟨g, 0, none⟩) ts.length c) ts.length (ts.map Value.string)) (hc : ts.length ≤ c) (hcm : c ≤ 9223372036854775807) (hi : i < ts.length) :
    Calls Try.prog 65 #[.slice (some ⟨g, 0, none⟩) ts.length c, .int .i64 i, .int .i64 ((i + 1 : Nat) : Int)] w fun e w' => e = .returned (.slice (some ⟨g, 0, none⟩) (ts.length - 1) c) ∧ w.grownBy w' (some g) ∧ Reads w' (.slice (some ⟨g, 0, none⟩) (ts.length - 1) c) (ts.eraseIdx i) := by
  have hlt := (hr.lt g rfl).2
  have hcell : ∀ j, j < ts.length → w.cell? ⟨g, 0 + j, none⟩ = some (.string (tv ts j)) := fun j hj => by
    rw [Nat.zero_add, hr.cellAt j (by omega)]
    simp [tv, hj]
  have h := Any.slices_Delete_string_cells dLays g 0 ts.length c i (i + 1) (tv ts) w hc hcm (by omega) (by omega) hcell (fun j _ => hr.frozenAt _)
  refine h.mono ?_
  rintro e w' ⟨rfl, q, rfl⟩
  have hd : Below w.heap.size w (w.drewN q) := below_drewN (Below.refl _ _) q
  have hg : w.grownBy ((w.drewN q).setCells g 0 (((Lib.strsOf (tv ts) ts.length).take i ++ (Lib.strsOf (tv ts) ts.length).drop (i + 1) ++ List.replicate (i + 1 - i) []).map encStr)) (some g) := grown_same (grown_below' hd) (grown_setCells g _ 0 _)
  refine ⟨by rw [show i + 1 - i = 1 by omega], hg, ?_⟩
  have hle : (ts.eraseIdx i).length = ts.length - 1 := by rw [List.length_eraseIdx, if_pos hi]
  refine .inr ⟨g, 0, c, by rw [hle], Nat.lt_of_lt_of_le hlt hg.size, fun j hj => ?_⟩
  rw [hle] at hj
  have es : Lib.strsOf (tv ts) ts.length = ts.map (·.data.toList) := by
    apply List.ext_getElem?
    intro k
    by_cases hk : k < ts.length
    · simp [Lib.strsOf, tv, hk]
    · rw [List.getElem?_eq_none (by simp [Lib.strsOf]; omega), List.getElem?_eq_none (by simp; omega)]
  have el : (((Lib.strsOf (tv ts) ts.length).take i ++ (Lib.strsOf (tv ts) ts.length).drop (i + 1) ++ List.replicate (i + 1 - i) []).map encStr) = (ts.eraseIdx i).map Value.string ++ [.string ⟨#[]⟩] := by
    rw [es, show i + 1 - i = 1 by omega, List.eraseIdx_eq_take_drop_succ]
    simp [encStr, Function.comp_def]
  rw [el]
  have hin := World.cell?_setCells_in g ((ts.eraseIdx i).map Value.string ++ [.string ⟨#[]⟩]) 0 (w.drewN q) (fun k hk => by
    have hk' : k < ts.length := by simp [hle] at hk; omega
    have := hcell k hk'
    show (w.cell? ⟨g, 0 + k, none⟩).isSome = true
    rw [this]; rfl) j (by simp [hle]; omega)
  rw [hin]
  have hj2 : j < (ts.eraseIdx i).length := by omega
  simp [hj2]
end Go.Proofs.Ytmcipciimnncmaa
