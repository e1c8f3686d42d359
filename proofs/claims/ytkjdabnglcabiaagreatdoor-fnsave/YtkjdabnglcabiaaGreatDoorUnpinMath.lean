import Derived.Shelf.Spec.SearchS
import Derived.Shelf.Strings.OnBuilder
import Derived.Test.YtkjdabnglcabiaaGreatDoorHeapMath
import Derived.Shelf.Slices.Cells
import Derived.Test.YtkjdabnglcabiaaGreatDoorGetLaw
/- slices.BinarySearch at []string and strings.Join, laid at this program. -/
namespace Go.Proofs.YtkjdabnglcabiaaGreatDoor
open Go.RowKit Go.Shelf
def sRen : Ren := { f := fun n => if n = 26 then 71 else if n = 33 then 93 else if n = 34 then 94 else if n = 38 then 112 else n, t := fun n => if n = 24 then 24 else if n = 40 then 135 else n, g := fun n => n }
theorem sLays : Lays2.n26 Tryz.prog sRen where
 mixed := by kernel_rfl
 f26 := by kernel_rfl
 f33 := by kernel_rfl
 f34 := by kernel_rfl
 f38 := by kernel_rfl
 t0 := by kernel_rfl
 a0 := fun _ => by kernel_rfl
 z0 := fun _ => by kernel_rfl
 v0 := fun _ => by kernel_rfl
 t3 := by kernel_rfl
 a3 := fun _ => by kernel_rfl
 z3 := fun _ => by kernel_rfl
 v3 := fun _ => by kernel_rfl
 t4 := by kernel_rfl
 a4 := fun _ => by kernel_rfl
 z4 := fun _ => by kernel_rfl
 v4 := fun _ => by kernel_rfl
 t9 := by kernel_rfl
 a9 := fun _ => by kernel_rfl
 z9 := fun _ => by kernel_rfl
 v9 := fun _ => by kernel_rfl
 t24 := by kernel_rfl
 a24 := fun _ => by kernel_rfl
 z24 := fun _ => by kernel_rfl
 v24 := fun _ => by kernel_rfl
 t40 := by kernel_rfl
 a40 := fun _ => by kernel_rfl
 z40 := fun _ => by kernel_rfl
 v40 := fun _ => by kernel_rfl
/-- The search in an ascending list: how many are less. -/
theorem search_any (b off c : Nat) (ts : List ByteArray) (x : ByteArray) (w : World) (hA : Asc ts) (hl : ts.length ≤ 1048576) (hc : ∀ j, j < ts.length → w.cell? ⟨b, off + j, none⟩ = some (.string (tv ts j))) :
  Calls Tryz.prog 71 #[.slice (some ⟨b, off, none⟩) ts.length c, .string x] w fun e w' => (∃ q, e = .returned (.tuple #[.int .i64 (cutN x ts : Nat), .bool q]) ∧ (q = true ↔ cutN x ts < ts.length ∧ tv ts (cutN x ts) = x)) ∧ ∃ q, w' = w.drewN q := by
 have h := Any2.slices_BinarySearch_string sLays b off ts.length c (fun t => if t < ts.length then tv ts t else x) x w (by omega) (fun j hj => by rw [if_pos hj]; exact hc j hj)
 rw [search_cut x ts hA] at h
 refine h.mono fun e w' ⟨he, hw⟩ => ⟨⟨_, he, ?_⟩, hw⟩
 rw [decide_eq_true_iff]
 constructor
 ·rintro ⟨h1, h2⟩
  rw [if_pos h1] at h2
  exact ⟨h1, h2⟩
 ·rintro ⟨h1, h2⟩
  rw [if_pos h1]
  exact ⟨h1, h2⟩
theorem search_none (a : Option Addr) (c : Nat) (x : ByteArray) (w : World) : Calls Tryz.prog 71 #[.slice a 0 c, .string x] w fun e w' => e = .returned (.tuple #[.int .i64 0, .bool false]) ∧ w' = w :=
 Any2.slices_BinarySearch_string_empty sLays a c x w
end Go.Proofs.YtkjdabnglcabiaaGreatDoor
/- slices.Delete of one text; (*shelf).unpin. -/
namespace Go.Proofs.YtkjdabnglcabiaaGreatDoor
open Go.RowKit Go.Shelf
theorem grown_setCells (b : Nat) : ∀ (vs : List Value) (o : Nat) (w : World), w.grownBy (w.setCells b o vs) (some b)
 | [], _, w => grown_refl2 w _
 | v :: vs, o, w => grown_same (grownBy_setCellAt w b o v) (grown_setCells b vs (o + 1) _)
end Go.Proofs.YtkjdabnglcabiaaGreatDoor
/- (*shelf).unpin, (*shelf).answer. -/
namespace Go.Proofs.YtkjdabnglcabiaaGreatDoor
open Go.RowKit
end Go.Proofs.YtkjdabnglcabiaaGreatDoor
/- impl.Unpin. -/
namespace Go.Proofs.YtkjdabnglcabiaaGreatDoor
open Go.RowKit
/-- What Unpin answers. -/
def UnpinR (wd room : Int) (its : Itms) (ts : List ByteArray) (name : ByteArray) (wd' room' : Int) (its' : Itms) (ts' : List ByteArray) (code : Int) : Prop :=
 (¬ (ValidSt wd room its ts ∧ (name.size : Int) = wd) ∧ wd' = 0 ∧ room' = 0 ∧ its' = [] ∧ ts' = [] ∧ code = 1) ∨
 ((ValidSt wd room its ts ∧ (name.size : Int) = wd) ∧ (∀ i, i < ts.length → tv ts i ≠ name) ∧ wd' = 0 ∧ room' = 0 ∧ its' = [] ∧ ts' = [] ∧ code = 2) ∨
 ((ValidSt wd room its ts ∧ (name.size : Int) = wd) ∧ wd' = wd ∧ room' = room ∧ its' = its ∧ code = 0 ∧ ∃ i, i < ts.length ∧ tv ts i = name ∧ ts' = ts.eraseIdx i)
set_option maxRecDepth 100000 in
set_option maxHeartbeats 1000000 in
theorem answer_no (sb : Nat) (code : Int) (w : World) (h : ¬ code = 0) :
  Calls Tryz.prog 20 #[.pointer (some ⟨sb, 0, none⟩), .int .i64 code] w fun e w' => e = .returned (.tuple #[.agg #[.int .i64 0, .int .i64 0, .slice none 0 0, .slice none 0 0], .int .i64 code]) ∧ Below w.heap.size w w' := by
 have hc : (code == 0) = false := by simpa using h
 go_enter Tryz.func20, Tryz.ntmps20
 go_wp2
 exact bodyPost_ret (v := .tuple #[.agg #[.int .i64 0, .int .i64 0, .slice none 0 0, .slice none 0 0], .int .i64 code]) (by simp [results, Tryz.results20, go_sem]) rfl ⟨rfl, (Below.refl _ _).alloc (Nat.le_refl _) _⟩
set_option maxRecDepth 100000 in
set_option maxHeartbeats 1000000 in
theorem answer_yes (sb mb m : Nat) (vc : Value) (wd room tot : Int) (its : Itms) (ts : List ByteArray) (D : DataW Unit) (w : World) (hbox : Blk w sb 74 #[.int .i64 wd, .int .i64 room, .int .i64 tot, .map (some mb), vc]) (hmap : w.ownsMap Tryz.prog 9 itemElem mb m D) (hD : Maps.Tidy D)
  (hasc : (sumsL wd its).Pairwise (· < ·)) (hhas : ∀ x, x ∈ sumsL wd its ↔ Maps.has D (.string x) = true) (hat : ∀ i, i < its.length → ∀ z, D.atKey (.string (sumX wd (itx its i)).data.toList) z = datI (itx its i, itu its i))
  (hrow : Reads w vc ts) (hl : its.length ≤ 1048576) (hts : ts.length ≤ 1048576) (hsp : ∀ i, (tv ts i).size ≤ 1048576) (hsi : ∀ i, (itx its i).size ≤ 1048576) :
  Calls Tryz.prog 20 #[.pointer (some ⟨sb, 0, none⟩), .int .i64 0] w fun e w' => ∃ vi vp, e = .returned (.tuple #[.agg #[.int .i64 wd, .int .i64 room, vi, vp], .int .i64 0]) ∧ StoreOwn w' (w.heap.size + 1) vi vp its ts ∧ Below w.heap.size w w' := by
 have hA := (Below.refl w.heap.size w).alloc (Nat.le_refl _) (.cells #[.int .i64 0, .int .i64 0, .slice none 0 0, .slice none 0 0] 26)
 have HN := hid (Blk.new w 26 #[.int .i64 0, .int .i64 0, .slice none 0 0, .slice none 0 0])
 have HST := hid (shelfStore_any keysOK sb mb m vc wd room tot its ts D _ (hbox.alloc _) (hmap.alloc _) hD hasc hhas hat (hrow.below hA) hl hts hsp hsi)
 have HA := hid hA
 clear hA hbox hmap hrow hhas hat hsp hsi
 go_enter Tryz.func20, Tryz.ntmps20
 go_wp2_with fail
 refine HST.out.mono ?_
 rintro e w1 ⟨v1, p1, rfl, oi, op, hap, hb1⟩
 rw [World.size_alloc] at oi op
 obtain ⟨a8, c8, rfl⟩ := row_any oi
 obtain ⟨b8, d8, rfl⟩ := row_any op
 have N1 := HN.out.below hb1
 have B1 := HA.out.trans (hb1.mono (by simp))
 have s9 := N1.store4 (.int .i64 wd) (.int .i64 room) (.slice a8 its.length c8) (.slice b8 ts.length d8)
 have s0 := s9.a0; have s1 := s9.a1; have s2 := s9.a2; have s3 := s9.a3
 have k0 := s9.f0; have k1 := s9.f1; have k2 := s9.f2; have k3 := s9.f3
 have Z := hid s9.z
 have BB := hid ((((B1.setCell (p := ⟨w.heap.size, 0, none⟩) (Nat.le_refl _) (.int .i64 wd)).setCell (p := ⟨w.heap.size, 1, none⟩) (Nat.le_refl _) (.int .i64 room)).setCell (p := ⟨w.heap.size, 2, none⟩) (Nat.le_refl _) (.slice a8 its.length c8)).setCell (p := ⟨w.heap.size, 3, none⟩) (Nat.le_refl _) (.slice b8 ts.length d8))
 clear s9
 have SO : StoreOwn w1 (w.heap.size + 1 + 1) (.slice a8 its.length c8) (.slice b8 ts.length d8) its ts := ⟨oi, op, hap⟩
 have GG := fun (x : World) (j : Nat) (y : Value) => grownBy_setCellAt x w.heap.size j y
 have SO4 := hid ((((SO.kept (GG _ 0 (.int .i64 wd)) (by omega)).kept (GG _ 1 (.int .i64 room)) (by omega)).kept (GG _ 2 (.slice a8 its.length c8)) (by omega)).kept (GG _ 3 (.slice b8 ts.length d8)) (by omega))
 clear SO GG oi op hap hb1 N1 B1
 go_wp2
 refine bodyPost_ret (v := .tuple #[.agg #[.int .i64 wd, .int .i64 room, .slice a8 its.length c8, .slice b8 ts.length d8], .int .i64 0]) (by simp [results, Tryz.results20, go_sem, Z.out.cell]) rfl ⟨_, _, rfl, SO4.out.base (by omega), BB.out⟩
end Go.Proofs.YtkjdabnglcabiaaGreatDoor
/- spec.Unpin: left out. -/
namespace Go.Proofs.YtkjdabnglcabiaaGreatDoor
open Go.RowKit
def offL (name : ByteArray) (ts : List ByteArray) : List ByteArray := ts.filter fun t => !(t.toList == name.toList)
theorem off_step (name : ByteArray) (ts : List ByteArray) (k : Nat) (h : k < ts.length) : offL name (ts.take (k + 1)) = if (tv ts k).toList == name.toList then offL name (ts.take k) else offL name (ts.take k) ++ [tv ts k] := by
 have e : tv ts k = ts[k] := by simp [tv, h]
 rw [e]
 unfold offL
 rw [List.take_succ_eq_append_getElem h, List.filter_append]
 cases g : (ts[k].toList == name.toList) <;> simp [g]
theorem off_none {name : ByteArray} {ts : List ByteArray} (h : ∀ i, i < ts.length → tv ts i ≠ name) : offL name ts = ts := by
 unfold offL
 refine List.filter_eq_self.2 fun t ht => ?_
 obtain ⟨i, hi, rfl⟩ := List.getElem_of_mem ht
 have h1 := h i hi
 have e : tv ts i = ts[i] := by simp [tv, hi]
 rw [e] at h1
 simp only [Bool.not_eq_true', beq_eq_false_iff_ne]
 exact fun e2 => h1 (text_eq e2)
theorem off_one {name : ByteArray} {ts : List ByteArray} (hA : Asc ts) {i : Nat} (hi : i < ts.length) (he : tv ts i = name) : offL name ts = ts.eraseIdx i := by
 have key : ∀ (ts : List ByteArray), Asc ts → ∀ i, i < ts.length → tv ts i = name → offL name ts = ts.eraseIdx i := by
  intro ts
  induction ts with
  | nil => intro _ i hi; simp at hi
  | cons a l ih =>
   intro hA i hi he
   cases i with
   | zero =>
    have ea : a = name := by simpa [tv] using he
    subst ea
    have : offL a l = l := by
     unfold offL
     refine List.filter_eq_self.2 fun t ht => ?_
     simp only [Bool.not_eq_true', beq_eq_false_iff_ne]
     intro e2
     have h1 := (List.pairwise_cons.1 hA).1 t ht
     rw [text_eq e2, tlt_irrefl] at h1
     cases h1
    unfold offL at this ⊢
    simp [this]
   | succ i =>
    have hi' : i < l.length := by simpa using hi
    have he' : tv l i = name := by simpa [tv] using he
    have h1 := ih (List.pairwise_cons.1 hA).2 i hi' he'
    have hne : (a.toList == name.toList) = false := by
     rw [beq_eq_false_iff_ne]
     intro e2
     have hm : tv l i ∈ l := by simp [tv, hi']
     have h2 := (List.pairwise_cons.1 hA).1 _ hm
     rw [he', text_eq e2, tlt_irrefl] at h2
     cases h2
    unfold offL at h1 ⊢
    simp [hne, h1]
 exact key ts hA i hi he
theorem offL_len (name : ByteArray) (ts : List ByteArray) : (offL name ts).length ≤ ts.length := List.length_filter_le _ _
end Go.Proofs.YtkjdabnglcabiaaGreatDoor
