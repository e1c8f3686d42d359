import Derived.Test.YtkjdabnglcabiaaGreatDoorSaveMath
import Derived.Test.YtkjdabnglcabiaaGreatDoorRangeLeave
/- (*impl.shelf).save. -/
namespace Go.Proofs.YtkjdabnglcabiaaGreatDoor
open Go.RowKit
attribute [local go_sem] Oper.semAt_some
theorem But.reads {P : Nat → Prop} {w w' : World} (h : But P w w') {v : Value} {ts : List ByteArray} (hr : Reads w v ts) (hn : ∀ g, v.ownBlock = some g → ¬ P g) : Reads w' v ts := by
 rcases hr with hr | ⟨c, off, cap, rfl, hl, hc⟩
 ·exact .inl hr
 ·refine .inr ⟨c, off, cap, rfl, Nat.lt_of_lt_of_le hl h.size, fun j hj => ?_⟩
  have e := h.block c hl (hn c rfl)
  exact (show w'.cell? _ = w.cell? _ by unfold World.cell?; simp only [e]).trans (hc j hj)
theorem But.boxed {P : Nat → Prop} {w w' : World} (h : But P w w') {b : Nat} {t : TypeId} {v : Value} (hb : Boxed w b t v) (hn : ¬ P b) : Boxed w' b t v := (h.block b hb.lt hn).trans hb
theorem reads_off_shelf {w : World} {sb mb : Nat} {wd room tot : Int} {vc : Value} {ts : List ByteArray} {m : Nat} {D : DataW Unit} {v : Value} (hr : Reads w v ts) (hl : 0 < ts.length) (hbox : Blk w sb 74 #[.int .i64 wd, .int .i64 room, .int .i64 tot, .map (some mb), vc]) (hvc : ∀ x, vc ≠ .string x) (hmap : w.ownsMap Tryz.prog 9 itemElem mb m D) : v.ownBlock ≠ some sb ∧ v.ownBlock ≠ some mb := by
 rcases hr with ⟨h, _⟩ | ⟨c, off, cap, rfl, hlt, hc⟩
 ·rw [h] at hl; simp at hl
 ·have h0 := hc 0 hl
  constructor
  ·intro e
   obtain rfl : c = sb := Option.some.inj e
   have hh : w.heap[c]? = some (.cells #[.int .i64 wd, .int .i64 room, .int .i64 tot, .map (some mb), vc] 74 (0, 0)) := hbox
   rw [Nat.add_zero, cell_of_heap hh] at h0
   rcases off with _ | _ | _ | _ | _ | off <;> simp at h0
   exact hvc _ h0
  ·intro e
   obtain rfl : c = mb := Option.some.inj e
   obtain ⟨es, clock, hm, _⟩ := hmap
   simp [World.cell?, hm] at h0
theorem wp_region_heldN {P : Program} {ops : Array Oper} {Q : Exit → Act → World → Prop} {S : World → Prop} {id : Nat} {a : Act} {w : World} (hm : P.follows .mixedOrders = true) (h : wpAnyH P .any ops (fun ex a w => ex = .normal ∧ Q .normal a w) S ops.size (Array.replicate ops.size false) a w.drew) : (Code.region id ops true).wp P Q a w :=
 wp_mono (wp_region_held hm h) (fun e a w h => by obtain ⟨rfl, h⟩ := h; exact h)
theorem reads_not_box {w : World} {v : Value} {ts : List ByteArray} {b : Nat} {z : Int} (hr : Reads w v ts) (hb : Boxed w b 3 (.int .i64 z)) (hl : 0 < ts.length) : v.ownBlock ≠ some b := fun e => by
 rcases hr with ⟨h, _⟩ | ⟨c, off, cap, rfl, hlt, hc⟩
 ·rw [h] at hl; simp at hl
 ·obtain rfl : c = b := Option.some.inj e
  have h0 := hc 0 hl
  have hh : w.heap[c]? = some (.cells #[.int .i64 z] 3 (0, 0)) := hb
  rw [Nat.add_zero, cell_of_heap hh] at h0
  rcases off with _ | off <;> simp at h0
theorem reads_lt {w : World} {v : Value} {ts : List ByteArray} (hr : Reads w v ts) (hl : 0 < ts.length) : ∀ g, v.ownBlock = some g → g < w.heap.size := fun g e => by
 rcases hr with ⟨h, _⟩ | ⟨c, off, cap, rfl, hlt, hc⟩
 ·rw [h] at hl; simp at hl
 ·obtain rfl : c = g := Option.some.inj e
  exact hlt
/-- What save leaves. -/
def SaveW (B sb mb : Nat) (wd room : Int) (its : Itms) (ts : List ByteArray) (s : ByteArray) (now : Int) (w : World) (e : Ending) (w' : World) : Prop :=
 ∃ code b, e = .returned (.int .i64 code) ∧ SaveS wd room its ts s now code b ∧ Below B w w' ∧ w.heap.size ≤ w'.heap.size ∧
  (code = 0 → ∃ ac cc, Blk w' sb 74 #[.int .i64 wd, .int .i64 room, .int .i64 (totI b : Nat), .map (some mb), .slice ac (addT (nameB s wd) ts).length cc] ∧ w'.ownsMap Tryz.prog 9 itemElem mb b.length (mapI wd b b.length) ∧ Reads w' (.slice ac (addT (nameB s wd) ts).length cc) (addT (nameB s wd) ts))
/-- What holds between two rounds: a shelf with so many texts in it. -/
def SI (sb mb : Nat) (wd room : Int) (its : Itms) (t1 : List ByteArray) (xs : List ByteArray) (now : Int) (vc : Value) (w1 : World) (pre : List ByteArray) (W : World) : Prop :=
 ∃ a, PutTo wd room t1 now its xs (pre.length + 1) a ∧ Blk W sb 74 #[.int .i64 wd, .int .i64 room, .int .i64 (totI a : Nat), .map (some mb), vc] ∧ W.ownsMap Tryz.prog 9 itemElem mb a.length (mapI wd a a.length) ∧ But (fun b => b = sb ∨ b = mb) w1 W
/-- What holds behind a round that leaves. -/
def SX (B rb : Nat) (wd room : Int) (its : Itms) (t1 : List ByteArray) (xs : List ByteArray) (now : Int) (w : World) (_ : List ByteArray) (W : World) : Prop :=
 ∃ code, code ≠ 0 ∧ PutsR wd room t1 now its xs code [] ∧ Boxed W rb 3 (.int .i64 code) ∧ Below B w W ∧ w.heap.size ≤ W.heap.size
theorem But.grown {P : Nat → Prop} {w A A' : World} {row : Option Nat} (h : But P w A) (hg : A.grownBy A' row) (hr : ∀ r, row = some r → w.heap.size ≤ r) : But P w A' :=
 ⟨hg.os.trans h.os, hg.tape.trans h.tape, hg.output.trans h.output, Nat.le_trans h.size hg.size, fun b hb hn => (hg.block b (Nat.lt_of_lt_of_le hb h.size) (fun e => by have := hr b e.symm; omega)).trans (h.block b hb hn)⟩
theorem SI.grown {sb mb : Nat} {wd room : Int} {its : Itms} {t1 : List ByteArray} {xs : List ByteArray} {now : Int} {vc : Value} {w1 : World} {pre : List ByteArray} {A A' : World} {row : Option Nat} (hs : sb < w1.heap.size) (hm : mb < w1.heap.size) (h : SI sb mb wd room its t1 xs now vc w1 pre A) (hg : A.grownBy A' row) (hr : ∀ r, row = some r → w1.heap.size ≤ r) : SI sb mb wd room its t1 xs now vc w1 pre A' := by
 obtain ⟨a, h1, h2, h3, h4⟩ := h
 exact ⟨a, h1, h2.kept hg (fun e => by have := hr sb e.symm; omega), h3.kept hg (fun e => by have := hr mb e.symm; omega), h4.grown hg hr⟩
theorem SX.grown {B rb : Nat} {wd room : Int} {its : Itms} {t1 : List ByteArray} {xs : List ByteArray} {now : Int} {w w1 : World} {pre : List ByteArray} {A A' : World} {row : Option Nat} (hb : B ≤ w.heap.size) (hw : w.heap.size ≤ w1.heap.size) (hs : rb < w1.heap.size) (h : SX B rb wd room its t1 xs now w pre A) (hg : A.grownBy A' row) (hr : ∀ r, row = some r → w1.heap.size ≤ r) : SX B rb wd room its t1 xs now w pre A' := by
 obtain ⟨c, h1, h2, h3, h4, h5⟩ := h
 exact ⟨c, h1, h2, h3.kept hg (fun e => by have := hr rb e.symm; omega), h4.grown hg (by omega) (fun r e => by have := hr r e; omega), Nat.le_trans h5 hg.size⟩
set_option maxRecDepth 100000 in
set_option maxHeartbeats 8000000 in
theorem shelfSave_any (sb mb B : Nat) (vc : Value) (wd room : Int) (its : Itms) (ts : List ByteArray) (s : ByteArray) (now : Int) (w : World) (hbox : Blk w sb 74 #[.int .i64 wd, .int .i64 room, .int .i64 (totI its : Nat), .map (some mb), vc]) (hmap : w.ownsMap Tryz.prog 9 itemElem mb its.length (mapI wd its its.length)) (hrow : w.ownsRow B 9 1 vc ts.length (ts.map Value.string)) (hne : sb ≠ mb) (hns : vc.ownBlock ≠ some sb) (hnm : vc.ownBlock ≠ some mb) (hv : ValidSt wd room its ts) (hBs : B ≤ sb) (hBm : B ≤ mb) (hBw : B ≤ w.heap.size) (hE : ∀ W, Below B w W → Errs W) :
  Calls Tryz.prog 21 #[.pointer (some ⟨sb, 0, none⟩), .string s, .int .i64 now] w (SaveW B sb mb wd room its ts s now w) := by
 have hsb := hbox.lt
 have hmb : mb < w.heap.size := by obtain ⟨es, clock, hm, _⟩ := hmap; exact (Array.getElem?_eq_some_iff.1 hm).1
 have hcap : ∀ g, vc.ownBlock = some g → B ≤ g ∧ g < w.heap.size := fun g e => hrow.lt g e
 refine (callsIn_wide (n := 0)).1 ?_
 refine callsIn_of_wp_marks Tryz.func21 rfl trivial ?_ rfl
 simp only [Tryz.ntmps21, List.size_toArray, List.length_cons, List.length_nil, Nat.reduceAdd, Nat.reduceSub, Array.replicate_succ, Array.replicate_zero, List.push_toArray, List.append_toArray, List.nil_append, List.cons_append]
 have HBOX := hid hbox
 have HMAP := hid hmap
 have HROW := hid hrow
 have HV := hid hv
 have HE := hid hE
 have HCAP := hid hcap
 clear hbox hmap hrow hv hE hcap
 gi_wp2_with fail
 obtain ⟨w0, hw0⟩ : ∃ w0, w0 = ((w.alloc (.cells #[.pointer (some ⟨sb, 0, none⟩)] 43)).alloc (.cells #[.int .i64 now] 3)).alloc (.cells #[.int .i64 0] 3) := ⟨_, rfl⟩
 rw [← hw0]
 have hA0 : Below w.heap.size w w0 := by rw [hw0]; exact (((Below.refl _ w).alloc (Nat.le_refl _) _).alloc (by simp) _).alloc (by simp; omega) _
 have b3 : Boxed w0 w.heap.size 43 (.pointer (some ⟨sb, 0, none⟩)) := by rw [hw0]; exact ((Boxed.new w 43 (.pointer (some ⟨sb, 0, none⟩))).alloc _).alloc _
 have b5 : Boxed w0 (w.heap.size + 1) 3 (.int .i64 now) := by
  rw [hw0]
  have := (Boxed.new (w.alloc (.cells #[.pointer (some ⟨sb, 0, none⟩)] 43)) 3 (.int .i64 now)).alloc (.cells #[.int .i64 0] 3)
  rwa [World.size_alloc] at this
 have b6 : Boxed w0 (w.heap.size + 2) 3 (.int .i64 0) := by
  rw [hw0]
  have := Boxed.new ((w.alloc (.cells #[.pointer (some ⟨sb, 0, none⟩)] 43)).alloc (.cells #[.int .i64 now] 3)) 3 (.int .i64 0)
  rwa [World.size_alloc, World.size_alloc] at this
 have X0 := HBOX.out.below hA0
 have M0 : w0.ownsMap Tryz.prog 9 itemElem mb its.length (mapI wd its its.length) := HMAP.out.kept (grown_of_below hA0) (by simp)
 have R0 := Below.row hA0 HROW.out
 have hz0 : w.heap.size + 3 ≤ w0.heap.size := by have := b6.lt; omega
 clear hw0
 have HNM := hid fun W h => implName_any s wd W h
 have HDS := hid fun W => implDescribe_any s wd W
 have hec1 := enters_of Tryz.func44 (by kernel_rfl) rfl
 have hec2 := enters_of Tryz.func43 (by kernel_rfl) rfl
 have hec3 := enters_of Tryz.func46 (by kernel_rfl) rfl
 have hec4 := enters_of Tryz.func45 (by kernel_rfl) rfl
 have hec5 := enters_of Tryz.func34 (by kernel_rfl) rfl
 have hS0 : w0.drew.cell? ⟨w.heap.size, 0, none⟩ = some (.pointer (some ⟨sb, 0, none⟩)) ∧ w0.drew.cell? ⟨sb, 0, none⟩ = some (.int .i64 wd) := ⟨b3.cell, X0.cell 0⟩
 have HA0 := hid hA0
 have HB3 := hid b3
 have HB5 := hid b5
 have HB6 := hid b6
 have HX0 := hid X0
 have HM0 := hid M0
 have HR0 := hid R0
 clear b3 b5 b6 X0 M0 R0 hA0
 refine wpIn_wide.2 (wp_region_heldN (S := fun w' => w'.cell? ⟨w.heap.size, 0, none⟩ = some (.pointer (some ⟨sb, 0, none⟩)) ∧ w'.cell? ⟨sb, 0, none⟩ = some (.int .i64 wd)) (by kernel_rfl) ?_)
 refine wpAnyH_take (i := 0) (v := .pointer (some ⟨sb, 0, none⟩)) rfl (by kernel_rfl) (by kernel_rfl) (by kernel_rfl) (fun _ _ _ h => by cases h.1) (.inl ⟨rfl, fun w' hS => by obtain ⟨s1, s2⟩ := hS; go_simp⟩) hS0 ?_
 refine wpAnyH_take (i := 1) (v := .string s) rfl (by kernel_rfl) (by kernel_rfl) (by kernel_rfl) (fun _ _ _ h => by cases h.1) (.inl ⟨rfl, fun w' hS => by obtain ⟨s1, s2⟩ := hS; go_simp⟩) hS0 ?_
 refine wpAnyH_take (i := 2) (v := .pointer (some ⟨sb, 0, none⟩)) rfl (by kernel_rfl) (by kernel_rfl) (by kernel_rfl) (fun _ _ _ h => by cases h.1) (.inl ⟨rfl, fun w' hS => by obtain ⟨s1, s2⟩ := hS; go_simp⟩) hS0 ?_
 refine wpAnyH_take (i := 3) (v := .pointer (some ⟨sb, 0, none⟩)) rfl (by kernel_rfl) (by kernel_rfl) (by kernel_rfl) (fun _ _ _ h => by cases h.1) (.inl ⟨rfl, fun w' hS => by obtain ⟨s1, s2⟩ := hS; go_simp⟩) hS0 ?_
 refine wpAnyH_take (i := 4) (v := .pointer (some ⟨sb, 0, none⟩)) rfl (by kernel_rfl) (by kernel_rfl) (by kernel_rfl) (fun _ _ _ h => by cases h.1) (.inl ⟨rfl, fun w' hS => by obtain ⟨s1, s2⟩ := hS; go_simp⟩) hS0 ?_
 refine wpAnyH_take (i := 5) (v := .int .i64 wd) rfl (by kernel_rfl) (by kernel_rfl) (by kernel_rfl) (fun _ _ _ h => by cases h.1) (.inl ⟨rfl, fun w' hS => by obtain ⟨s1, s2⟩ := hS; go_simp⟩) hS0 ?_
 refine held_one 6 (by kernel_rfl) (op_calls (f := 44) (args := #[.string s, .int .i64 wd]) rfl rfl (by go_simp) (HNM.out _ (HE.out w0.drew ⟨HA0.out.os, HA0.out.tape, HA0.out.output, HA0.out.size, fun b hb => HA0.out.block b (by omega)⟩).tab) ?_)
 rintro e w1 ⟨rfl, hb1⟩
 have hb1' : Below w0.heap.size w0 w1 := ⟨hb1.os, hb1.tape, hb1.output, hb1.size, hb1.block⟩
 have hz1 := hb1'.size
 have X1 := HX0.out.below hb1'
 have HPN := hid (pinB_any sb mb its.length B (mapI wd its its.length) wd room (totI its : Nat) vc ts (nameB s wd) w1 X1 (HM0.out.kept (grown_of_below hb1') (by simp)) (Below.row hb1' HR0.out) hne hns hnm (okSums_asc HV.out.sums) HV.out.pins)
 have hS1 : w1.cell? ⟨w.heap.size, 0, none⟩ = some (.pointer (some ⟨sb, 0, none⟩)) ∧ w1.cell? ⟨sb, 0, none⟩ = some (.int .i64 wd) := ⟨(Below.boxed hb1' HB3.out).cell, X1.cell 0⟩
 have HW1 := hid (HA0.out.trans (hb1'.mono HA0.out.size))
 have K3 := hid (Below.boxed hb1' HB3.out)
 have K5 := hid (Below.boxed hb1' HB5.out)
 have K6 := hid (Below.boxed hb1' HB6.out)
 refine ⟨_, rfl, hS1, ?_⟩
 clear hS0 hb1 hb1' X1 HB3 HB5 HB6 HX0 HM0 HR0
 refine held_one 7 (by kernel_rfl) (op_calls (f := 43) (args := #[.pointer (some ⟨sb, 0, none⟩), .string (nameB s wd)]) rfl rfl (by go_simp) HPN.out ?_)
 rintro e w2 (⟨rfl, hsz, hb2⟩ | ⟨rfl, hsz, h10, hb2⟩ | ⟨rfl, hsz, h10, vc2, X2, R2, M2, hbt2⟩)
 ·have k3 := Below.boxed hb2 K3.out
  have k6 := Below.boxed hb2 K6.out
  have hS2 : w2.cell? ⟨w.heap.size, 0, none⟩ = some (.pointer (some ⟨sb, 0, none⟩)) ∧ w2.cell? ⟨sb, 0, none⟩ = some (.int .i64 wd) := ⟨k3.cell, (hb2.cell (World.block_lt_of_cell? w1 _ hS1.2)).trans hS1.2⟩
  have HRES : Hid (SaveS wd room its ts s now 1 []) := .inl ⟨hsz, rfl, rfl⟩
  have HB2 := hid (HW1.out.trans (hb2.mono (by have := HA0.out.size; omega)))
  have hz2 := hb2.size
  refine ⟨_, rfl, hS2, ?_⟩
  refine wpAnyH_take (i := 8) (v := .int .i64 1) rfl (by kernel_rfl) (by kernel_rfl) (by kernel_rfl) (fun _ _ _ h => by cases h.1) (.inl ⟨rfl, fun w' hS => by go_simp⟩) hS2 ?_
  refine wpAnyH_done (by kernel_rfl) ⟨rfl, ?_⟩ _
  have c6 := k6.cell
  have f6 := k6.frozen
  have K62 := hid (k6.set (.int .i64 1))
  clear hS1 hS2 k3 k6 hb2 HPN K3 K5 K6
  go_simp
  gi_wp2
  have c7 := K62.out.cell
  refine ⟨.int .i64 1, by simp [results, Tryz.results21, go_sem, c7], 1, [], rfl, HRES.out, (HB2.out.mono hBw).setCell (p := ⟨w.heap.size + 2, 0, none⟩) (by simp; omega) _, by rw [World.size_setCell]; omega, fun h => by cases h⟩
 ·have k3 := Below.boxed hb2 K3.out
  have k6 := Below.boxed hb2 K6.out
  have hS2 : w2.cell? ⟨w.heap.size, 0, none⟩ = some (.pointer (some ⟨sb, 0, none⟩)) ∧ w2.cell? ⟨sb, 0, none⟩ = some (.int .i64 wd) := ⟨k3.cell, (hb2.cell (World.block_lt_of_cell? w1 _ hS1.2)).trans hS1.2⟩
  have HRES : Hid (SaveS wd room its ts s now 2 []) := .inr (.inl ⟨hsz, h10, rfl, rfl⟩)
  have HB2 := hid (HW1.out.trans (hb2.mono (by have := HA0.out.size; omega)))
  have hz2 := hb2.size
  refine ⟨_, rfl, hS2, ?_⟩
  refine wpAnyH_take (i := 8) (v := .int .i64 2) rfl (by kernel_rfl) (by kernel_rfl) (by kernel_rfl) (fun _ _ _ h => by cases h.1) (.inl ⟨rfl, fun w' hS => by go_simp⟩) hS2 ?_
  refine wpAnyH_done (by kernel_rfl) ⟨rfl, ?_⟩ _
  have c6 := k6.cell
  have f6 := k6.frozen
  have K62 := hid (k6.set (.int .i64 2))
  clear hS1 hS2 k3 k6 hb2 HPN K3 K5 K6
  go_simp
  gi_wp2
  have c7 := K62.out.cell
  refine ⟨.int .i64 2, by simp [results, Tryz.results21, go_sem, c7], 2, [], rfl, HRES.out, (HB2.out.mono hBw).setCell (p := ⟨w.heap.size + 2, 0, none⟩) (by simp; omega) _, by rw [World.size_setCell]; omega, fun h => by cases h⟩
 obtain ⟨ac, cc, rfl, _⟩ := R2.form
 have hadd : 0 < (addT (nameB s wd) ts).length := by
  have : nameB s wd ∈ addT (nameB s wd) ts := by rw [addT_eq]; exact (putT_mem _).2 (.inl rfl)
  exact List.length_pos_of_mem this
 have hoff := reads_off_shelf R2 hadd X2 (fun x h => by cases h) M2
 have hvp := HV.out.pinned hsz h10
 have hnb : ∀ b, w.heap.size ≤ b → ¬ (b = sb ∨ vc.ownBlock = some b) := fun b hb h => h.elim (fun h => by omega) (fun h => by have := (HCAP.out b h).2; omega)
 have k3 := hbt2.boxed K3.out (hnb _ (by omega))
 have k5 := hbt2.boxed K5.out (hnb _ (by omega))
 have k6 := hbt2.boxed K6.out (hnb _ (by omega))
 have hB2 : Below B w w2 := (HW1.out.mono hBw).trans (hbt2.below (by omega) (fun b h => h.elim (fun h => by omega) (fun h => (HCAP.out b h).1)))
 have hz2 := hbt2.size
 have hS2 : w2.cell? ⟨w.heap.size, 0, none⟩ = some (.pointer (some ⟨sb, 0, none⟩)) ∧ w2.cell? ⟨sb, 0, none⟩ = some (.int .i64 wd) := ⟨k3.cell, X2.cell 0⟩
 refine ⟨_, rfl, hS2, ?_⟩
 refine wpAnyH_take (i := 8) (v := .int .i64 0) rfl (by kernel_rfl) (by kernel_rfl) (by kernel_rfl) (fun _ _ _ h => by cases h.1) (.inl ⟨rfl, fun w' hS => by go_simp⟩) hS2 ?_
 refine wpAnyH_done (by kernel_rfl) ⟨rfl, ?_⟩ _
 generalize ht1 : addT (nameB s wd) ts = t1 at *
 have HSV : Hid (∀ code b, PutsR wd room t1 now its (saveX s wd) code b → SaveS wd room its ts s now code b) := fun code b h => .inr (.inr ⟨hsz, by rw [ht1]; exact h10, by rw [ht1]; exact h⟩)
 have HX2 := hid X2
 have HM2 := hid M2
 have HR2 := hid R2
 have HVP := hid hvp
 have HB2 := hid hB2
 have HK3 := hid k3
 have HK5 := hid k5
 have HK6 := hid k6
 have HT1 := hid ht1
 have hS3 : w2.drew.cell? ⟨w.heap.size, 0, none⟩ = some (.pointer (some ⟨sb, 0, none⟩)) ∧ w2.drew.cell? ⟨sb, 0, none⟩ = some (.int .i64 wd) ∧ w2.drew.cell? ⟨w.heap.size + 1, 0, none⟩ = some (.int .i64 now) := ⟨k3.cell, X2.cell 0, k5.cell⟩
 have HADD := hid hadd
 have HOFF := hid hoff
 clear hS1 hS2 X2 M2 R2 hvp hB2 k3 k5 k6 ht1 HPN K3 K5 K6 hbt2 hsz h10 hadd
 go_simp
 gi_wp2_with fail
 refine wpIn_wide.2 (wp_region_heldN (S := fun w' => w'.cell? ⟨w.heap.size, 0, none⟩ = some (.pointer (some ⟨sb, 0, none⟩)) ∧ w'.cell? ⟨sb, 0, none⟩ = some (.int .i64 wd) ∧ w'.cell? ⟨w.heap.size + 1, 0, none⟩ = some (.int .i64 now)) (by kernel_rfl) ?_)
 refine wpAnyH_take (i := 0) (v := .pointer (some ⟨sb, 0, none⟩)) rfl (by kernel_rfl) (by kernel_rfl) (by kernel_rfl) (fun _ _ _ h => by cases h.1) (.inl ⟨rfl, fun w' hS => by obtain ⟨s1, s2, s3⟩ := hS; go_simp⟩) hS3 ?_
 refine wpAnyH_take (i := 1) (v := .string s) rfl (by kernel_rfl) (by kernel_rfl) (by kernel_rfl) (fun _ _ _ h => by cases h.1) (.inl ⟨rfl, fun w' hS => by obtain ⟨s1, s2, s3⟩ := hS; go_simp⟩) hS3 ?_
 refine wpAnyH_take (i := 2) (v := .pointer (some ⟨sb, 0, none⟩)) rfl (by kernel_rfl) (by kernel_rfl) (by kernel_rfl) (fun _ _ _ h => by cases h.1) (.inl ⟨rfl, fun w' hS => by obtain ⟨s1, s2, s3⟩ := hS; go_simp⟩) hS3 ?_
 refine wpAnyH_take (i := 3) (v := .pointer (some ⟨sb, 0, none⟩)) rfl (by kernel_rfl) (by kernel_rfl) (by kernel_rfl) (fun _ _ _ h => by cases h.1) (.inl ⟨rfl, fun w' hS => by obtain ⟨s1, s2, s3⟩ := hS; go_simp⟩) hS3 ?_
 refine wpAnyH_take (i := 4) (v := .pointer (some ⟨sb, 0, none⟩)) rfl (by kernel_rfl) (by kernel_rfl) (by kernel_rfl) (fun _ _ _ h => by cases h.1) (.inl ⟨rfl, fun w' hS => by obtain ⟨s1, s2, s3⟩ := hS; go_simp⟩) hS3 ?_
 refine wpAnyH_take (i := 5) (v := .int .i64 wd) rfl (by kernel_rfl) (by kernel_rfl) (by kernel_rfl) (fun _ _ _ h => by cases h.1) (.inl ⟨rfl, fun w' hS => by obtain ⟨s1, s2, s3⟩ := hS; go_simp⟩) hS3 ?_
 refine wpAnyH_take (i := 7) (v := .pointer (some ⟨sb, 0, none⟩)) rfl (by kernel_rfl) (by kernel_rfl) (by kernel_rfl) (fun _ _ _ h => by cases h.1) (.inl ⟨rfl, fun w' hS => by obtain ⟨s1, s2, s3⟩ := hS; go_simp⟩) hS3 ?_
 refine wpAnyH_take (i := 8) (v := .pointer (some ⟨sb, 0, none⟩)) rfl (by kernel_rfl) (by kernel_rfl) (by kernel_rfl) (fun _ _ _ h => by cases h.1) (.inl ⟨rfl, fun w' hS => by obtain ⟨s1, s2, s3⟩ := hS; go_simp⟩) hS3 ?_
 refine wpAnyH_take (i := 9) (v := .pointer (some ⟨sb, 0, none⟩)) rfl (by kernel_rfl) (by kernel_rfl) (by kernel_rfl) (fun _ _ _ h => by cases h.1) (.inl ⟨rfl, fun w' hS => by obtain ⟨s1, s2, s3⟩ := hS; go_simp⟩) hS3 ?_
 refine wpAnyH_take (i := 10) (v := .int .i64 wd) rfl (by kernel_rfl) (by kernel_rfl) (by kernel_rfl) (fun _ _ _ h => by cases h.1) (.inl ⟨rfl, fun w' hS => by obtain ⟨s1, s2, s3⟩ := hS; go_simp⟩) hS3 ?_
 refine wpAnyH_take (i := 12) (v := .int .i64 now) rfl (by kernel_rfl) (by kernel_rfl) (by kernel_rfl) (fun _ _ _ h => by cases h.1) (.inl ⟨rfl, fun w' hS => by obtain ⟨s1, s2, s3⟩ := hS; go_simp⟩) hS3 ?_
 refine held_one 6 (by kernel_rfl) (op_calls (f := 46) (args := #[.string s, .int .i64 wd]) rfl rfl (by go_simp) (HDS.out _) ?_)
 rintro e w3 ⟨v3, rfl, hrow3, hb3⟩
 have hb3' : Below w2.heap.size w2 w3 := ⟨hb3.os, hb3.tape, hb3.output, hb3.size, hb3.block⟩
 have hz3 := hb3'.size
 have HFL := hid (implFormList_any (descN s wd) v3 (descS s wd) wd w3 (Reads.of_row hrow3) (Nat.le_trans (descS_len s wd) (by unfold maxLen; omega)) (descS_size s wd) (HE.out w3 (HB2.out.trans (hb3'.mono (by omega)))).tab)
 have hS4 : w3.cell? ⟨w.heap.size, 0, none⟩ = some (.pointer (some ⟨sb, 0, none⟩)) ∧ w3.cell? ⟨sb, 0, none⟩ = some (.int .i64 wd) ∧ w3.cell? ⟨w.heap.size + 1, 0, none⟩ = some (.int .i64 now) := ⟨(Below.boxed hb3' HK3.out).cell, (HX2.out.below hb3').cell 0, (Below.boxed hb3' HK5.out).cell⟩
 have HC3 := hid hb3'
 obtain ⟨av3, cv3, rfl, _⟩ := row_form hrow3
 refine ⟨_, rfl, hS4, ?_⟩
 clear hS3 hb3 hb3' hrow3
 refine held_one 11 (by kernel_rfl) (op_calls (f := 45) (args := #[.agg #[.int .i64 (descN s wd), .slice av3 (descS s wd).length cv3], .int .i64 wd]) rfl rfl (by go_simp) HFL.out ?_)
 rintro e w4 ⟨rfl, hb4⟩
 have hb24 := HC3.out.trans (hb4.mono HC3.out.size)
 have hz4 := hb24.size
 have hwd := of_decide_eq_true HVP.out.width
 have X4 := HX2.out.below hb24
 have HPT := hid (shelfPut_any sb mb ac cc wd room its t1 (formR (descN s wd) (descS s wd) wd) now w4 X4 (HM2.out.kept (grown_of_below hb24) (by simp)) (HR2.out.below hb24) (ascI_of HVP.out.each) HVP.out.items HVP.out.pins (fun i => pin_small HVP.out.sums hwd.2 i) (fun i => item_small HVP.out.each i) hwd.2 (HE.out w4 (HB2.out.trans (hb24.mono (by omega)))) (by have h1 := HVP.out.fits; have h2 := HVP.out.room1; omega) (form_small s wd) hne)
 have hS5 : w4.cell? ⟨w.heap.size, 0, none⟩ = some (.pointer (some ⟨sb, 0, none⟩)) ∧ w4.cell? ⟨sb, 0, none⟩ = some (.int .i64 wd) ∧ w4.cell? ⟨w.heap.size + 1, 0, none⟩ = some (.int .i64 now) := ⟨(Below.boxed hb24 HK3.out).cell, X4.cell 0, (Below.boxed hb24 HK5.out).cell⟩
 have K3 := hid (Below.boxed hb24 HK3.out)
 have K5 := hid (Below.boxed hb24 HK5.out)
 have K6 := hid (Below.boxed hb24 HK6.out)
 have R4 := hid (HR2.out.below hb24)
 have HB4 := hid (HB2.out.trans (hb24.mono (by omega)))
 refine ⟨_, rfl, hS5, ?_⟩
 clear hS4 hb4 hb24 X4 hwd HFL
 refine held_one 13 (by kernel_rfl) (op_calls (f := 34) (args := #[.pointer (some ⟨sb, 0, none⟩), .string (formR (descN s wd) (descS s wd) wd), .int .i64 now]) rfl rfl (by go_simp) HPT.out ?_)
 have HXL : Hid (tv (saveX s wd) 0 = formR (descN s wd) (descS s wd) wd ∧ 0 < (saveX s wd).length) := ⟨rfl, by simp [saveX]⟩
 have HNO : Hid (∀ code, PutNo wd room t1 now its (formR (descN s wd) (descS s wd) wd) code → PutsR wd room t1 now its (saveX s wd) code []) := fun code h => .inr ⟨h.ne, rfl, 0, its, HXL.out.2, .zero, by rw [HXL.out.1]; exact h⟩
 rintro e w5 (⟨hnp, rfl, hb5⟩ | ⟨hpt, code, a, hpi, rfl, ⟨hc, hb5⟩ | ⟨rfl, X5, M5, hbt5⟩⟩)
 ·have HRES : Hid (SaveS wd room its ts s now 1 []) := HSV.out _ _ (HNO.out _ (.inl ⟨hnp, rfl⟩))
  have k6 := Below.boxed hb5 K6.out
  have hS6 : w5.cell? ⟨w.heap.size, 0, none⟩ = some (.pointer (some ⟨sb, 0, none⟩)) ∧ w5.cell? ⟨sb, 0, none⟩ = some (.int .i64 wd) ∧ w5.cell? ⟨w.heap.size + 1, 0, none⟩ = some (.int .i64 now) := ⟨(Below.boxed hb5 K3.out).cell, (hb5.cell (World.block_lt_of_cell? w4 _ hS5.2.1)).trans hS5.2.1, (Below.boxed hb5 K5.out).cell⟩
  have HB5 := hid (HB4.out.trans (hb5.mono (by omega)))
  have hz5 := hb5.size
  refine ⟨_, rfl, hS6, ?_⟩
  refine wpAnyH_take (i := 14) (v := .int .i64 1) rfl (by kernel_rfl) (by kernel_rfl) (by kernel_rfl) (fun _ _ _ h => by cases h.1) (.inl ⟨rfl, fun w' hS => by go_simp⟩) hS6 ?_
  refine wpAnyH_done (by kernel_rfl) ⟨rfl, ?_⟩ _
  have c6 := k6.cell
  have f6 := k6.frozen
  have K62 := hid (k6.set (.int .i64 1))
  clear hS5 hS6 k6 hb5 HPT K3 K5 K6 R4 HNO HXL
  go_simp
  gi_wp2
  have c7 := K62.out.cell
  refine ⟨.int .i64 1, by simp [results, Tryz.results21, go_sem, c7], 1, [], rfl, HRES.out, HB5.out.setCell (p := ⟨w.heap.size + 2, 0, none⟩) (by simp; omega) _, by rw [World.size_setCell]; omega, fun h => by cases h⟩
 ·have HRES : Hid (SaveS wd room its ts s now code []) := HSV.out _ _ (HNO.out _ (.inr ⟨hpt, hc, a, hpi⟩))
  have k6 := Below.boxed hb5 K6.out
  have hS6 : w5.cell? ⟨w.heap.size, 0, none⟩ = some (.pointer (some ⟨sb, 0, none⟩)) ∧ w5.cell? ⟨sb, 0, none⟩ = some (.int .i64 wd) ∧ w5.cell? ⟨w.heap.size + 1, 0, none⟩ = some (.int .i64 now) := ⟨(Below.boxed hb5 K3.out).cell, (hb5.cell (World.block_lt_of_cell? w4 _ hS5.2.1)).trans hS5.2.1, (Below.boxed hb5 K5.out).cell⟩
  have HB5 := hid (HB4.out.trans (hb5.mono (by omega)))
  have hz5 := hb5.size
  refine ⟨_, rfl, hS6, ?_⟩
  refine wpAnyH_take (i := 14) (v := .int .i64 code) rfl (by kernel_rfl) (by kernel_rfl) (by kernel_rfl) (fun _ _ _ h => by cases h.1) (.inl ⟨rfl, fun w' hS => by go_simp⟩) hS6 ?_
  refine wpAnyH_done (by kernel_rfl) ⟨rfl, ?_⟩ _
  have c6 := k6.cell
  have f6 := k6.frozen
  have K62 := hid (k6.set (.int .i64 code))
  clear hS5 hS6 k6 hb5 HPT K3 K5 K6 R4 HNO HXL
  go_simp
  gi_wp2
  have c7 := K62.out.cell
  refine ⟨.int .i64 code, by simp [results, Tryz.results21, go_sem, c7], code, [], rfl, HRES.out, HB5.out.setCell (p := ⟨w.heap.size + 2, 0, none⟩) (by simp; omega) _, by rw [World.size_setCell]; omega, fun h => absurd h hc⟩
 have hPT : PutTo wd room t1 now its (saveX s wd) 1 a := .step .zero HXL.out.2 (by rw [HXL.out.1]; exact hpt) (by rw [HXL.out.1]; exact hpi)
 have hnb : ∀ b, w.heap.size ≤ b → ¬ (b = sb ∨ b = mb) := fun b hb h => h.elim (fun h => by omega) (fun h => by omega)
 have k3 := hbt5.boxed K3.out (hnb _ (by omega))
 have k5 := hbt5.boxed K5.out (hnb _ (by omega))
 have k6 := hbt5.boxed K6.out (hnb _ (by omega))
 have R5 := hbt5.reads R4.out (fun g e h => h.elim (fun h => hoff.1 (by rw [e, h])) (fun h => hoff.2 (by rw [e, h])))
 have hB5 : Below B w w5 := HB4.out.trans (hbt5.below (by omega) (fun b h => h.elim (fun h => by omega) (fun h => by omega)))
 have hz5 := hbt5.size
 have hS6 : w5.cell? ⟨w.heap.size, 0, none⟩ = some (.pointer (some ⟨sb, 0, none⟩)) ∧ w5.cell? ⟨sb, 0, none⟩ = some (.int .i64 wd) ∧ w5.cell? ⟨w.heap.size + 1, 0, none⟩ = some (.int .i64 now) := ⟨k3.cell, X5.cell 0, k5.cell⟩
 refine ⟨_, rfl, hS6, ?_⟩
 refine wpAnyH_take (i := 14) (v := .int .i64 0) rfl (by kernel_rfl) (by kernel_rfl) (by kernel_rfl) (fun _ _ _ h => by cases h.1) (.inl ⟨rfl, fun w' hS => by go_simp⟩) hS6 ?_
 refine wpAnyH_done (by kernel_rfl) ⟨rfl, ?_⟩ _
 have HX5 := hid X5
 have HM5 := hid M5
 have HR5 := hid R5
 have HB5 := hid hB5
 have HK3 := hid k3
 have HK5 := hid k5
 have HK6 := hid k6
 have HPT1 := hid hPT
 clear hS5 hS6 X5 M5 R5 hB5 k3 k5 k6 hPT hbt5 HPT K3 K5 K6 R4 HNO HXL hpt hpi hnb hoff HX2 HM2 HR2 HC3 HB4 HB2
 go_simp
 gi_wp2_with (refine ⟨trivial, rfl, ?_⟩; gi_at_call 47; refine (callsIn_wide.2 (eachPiece_any s _)).mono ?_; rintro e w' ⟨rfl, rfl⟩)
 have bN := Boxed.new w5 9 (.string s)
 have hs6 : sb < (w5.alloc (.cells #[.string s] 9)).heap.size := by rw [World.size_alloc]; omega
 have hm6 : mb < (w5.alloc (.cells #[.string s] 9)).heap.size := by rw [World.size_alloc]; omega
 have hz6 : w.heap.size + 3 ≤ (w5.alloc (.cells #[.string s] 9)).heap.size := by rw [World.size_alloc]; omega
 have A6 : Below w5.heap.size w5 (w5.alloc (.cells #[.string s] 9)) := (Below.refl _ _).alloc (Nat.le_refl _) _
 have HI0 : Hid (SI sb mb wd room its t1 (saveX s wd) now (.slice ac t1.length cc) (w5.alloc (.cells #[.string s] 9)) [] (w5.alloc (.cells #[.string s] 9))) := ⟨a, HPT1.out, HX5.out.below A6, HM5.out.kept (grown_of_below A6) (by simp), But.refl _ _⟩
 have HK36 := hid (Below.boxed A6 HK3.out)
 have HK56 := hid (Below.boxed A6 HK5.out)
 have HK66 := hid (Below.boxed A6 HK6.out)
 have HR6 := hid (HR5.out.below A6)
 have HB6 := hid (HB5.out.trans (A6.mono (by omega)))
 have HLT : Hid (∀ g, (Value.slice ac t1.length cc).ownBlock = some g → g < w5.heap.size) := reads_lt HR5.out HADD.out
 clear A6 HX5 HM5 HR5 HB5 HK3 HK5 HK6
 have hw6 : w5.heap.size < (w5.alloc (.cells #[.string s] 9)).heap.size := by rw [World.size_alloc]; omega
 refine wp_rangeL (T := 122) (gf := 79) (lb := #[.pointer (some ⟨w5.heap.size, 0, none⟩)]) rfl (enters_of Tryz.func79 (by kernel_rfl) rfl)
  (iter_seqL s w5.heap.size _ (by simp) bN) (fun h k => h.trans k) (fun W l o o' hl h ho => KeepP.put W l o o' (by simp at hl; omega) h ho) (Below.refl _ _) (fun _ => rfl)
  (SI sb mb wd room its t1 (saveX s wd) now (.slice ac t1.length cc) (w5.alloc (.cells #[.string s] 9))) (SX B (w.heap.size + 2) wd room its t1 (saveX s wd) now w)
  (fun pre W W' row h hg hr => h.grown hBw (by omega) (by omega) hg (fun r e => (hr r e).1)) (fun pre W W' row h hg hr => h.grown hs6 hm6 hg (fun r e => (hr r e).1)) (fun pre W W' row h hg hr => h.grown hs6 hm6 hg (fun r e => (hr r e).1)) HI0.out
  (fun x => { tmps := #[.pointer (some ⟨sb, 0, none⟩), .string s, .int .i64 now, .pointer (some ⟨w.heap.size, 0, none⟩), undef, .pointer (some ⟨w.heap.size + 1, 0, none⟩), .pointer (some ⟨w.heap.size + 1 + 1, 0, none⟩), .int .i64 0, .int .i64 0, .string x, undef, .pointer (some ⟨sb, 0, none⟩), .string s, .pointer (some ⟨sb, 0, none⟩), .pointer (some ⟨sb, 0, none⟩), .pointer (some ⟨sb, 0, none⟩), .int .i64 wd, .string (nameB s wd), .int .i64 0, .int .i64 0, .bool false, undef, .pointer (some ⟨sb, 0, none⟩), .string s, .pointer (some ⟨sb, 0, none⟩), .pointer (some ⟨sb, 0, none⟩), .pointer (some ⟨sb, 0, none⟩), .int .i64 wd, .agg #[.int .i64 (descN s wd), .slice av3 (descS s wd).length cv3], .pointer (some ⟨sb, 0, none⟩), .pointer (some ⟨sb, 0, none⟩), .pointer (some ⟨sb, 0, none⟩), .int .i64 wd, .string (formR (descN s wd) (descS s wd) wd), .int .i64 now, .int .i64 0, .int .i64 0, .bool false, undef, .string s, .func (.func 79) #[] #[.pointer (some ⟨w5.heap.size, 0, none⟩)], .string x, undef, undef, undef, undef, undef, undef, undef], defers := [] }) ?assign ?body ?done ?stop
 case assign =>
  intro l x W K hK
  gi_wp2
  exact hK
 case body =>
  rintro l pre x W ⟨a1, hpt, X, M, hbt⟩ hpx
  obtain ⟨hxt, hxl, hxs⟩ := saveX_piece (wd := wd) hpx
  have hva := hpt.valid HVP.out
  have hwd := of_decide_eq_true hva.width
  have hzz := hbt.size
  have hnb : ∀ b, w.heap.size ≤ b → ¬ (b = sb ∨ b = mb) := fun b hb h => h.elim (fun h => by omega) (fun h => by omega)
  have k3 := hbt.boxed HK36.out (hnb _ (Nat.le_refl _))
  have k5 := hbt.boxed HK56.out (hnb _ (by omega))
  have k6 := hbt.boxed HK66.out (hnb _ (by omega))
  have R := hbt.reads HR6.out (fun g e h => h.elim (fun h => HOFF.out.1 (by rw [e, h])) (fun h => HOFF.out.2 (by rw [e, h])))
  have hBW : Below B w W := HB6.out.trans (hbt.below (by omega) (fun b h => h.elim (fun h => by omega) (fun h => by omega)))
  have HP := hid (shelfPut_any sb mb ac cc wd room a1 t1 x now W X M R (ascI_of hva.each) hva.items hva.pins (fun i => pin_small hva.sums hwd.2 i) (fun i => item_small hva.each i) hwd.2 (HE.out W hBW) (by have h1 := hva.fits; have h2 := hva.room1; omega) (by omega) hne)
  have c3 := k3.cell
  have c5 := k5.cell
  have HX := hid X
  have HM := hid M
  have HBT := hid hbt
  have HBW := hid hBW
  have HK6 := hid k6
  have HPTW := hid hpt
  clear X M hbt hBW R k3 k5 k6 hva hwd hpt hpx bN HI0
  gi_wp2_with fail
  refine ⟨trivial, rfl, (CallsIn.inRound l (callsIn_wide.2 HP.out)).mono ?_⟩
  rintro e w7 (⟨hnp, rfl, hb7⟩ | ⟨hpt7, code, a2, hpi, rfl, ⟨hc, hb7⟩ | ⟨rfl, X7, M7, hbt7⟩⟩)
  ·have HRES : Hid (PutsR wd room t1 now its (saveX s wd) 1 []) := .inr ⟨by decide, rfl, pre.length + 1, a1, hxl, HPTW.out, by rw [hxt]; exact .inl ⟨hnp, rfl⟩⟩
   have k7 := Below.boxed hb7 HK6.out
   have c7 := k7.cell
   have f7 := k7.frozen
   have HB7 := hid (HBW.out.trans (hb7.mono (by omega)))
   have HK7 := hid (k7.set (.int .i64 1))
   have hz7 := hb7.size
   have HKF : Hid (KeepsFrom (w5.alloc (.cells #[.string s] 9)).heap.size W (w7.setCell ⟨w.heap.size + 2, 0, none⟩ (.int .i64 1))) := (KeepsFrom.of_grownBy (grown_of_below hb7) (fun j e => by cases e)).trans (KeepsFrom.of_grownBy (grownBy_setCell' w7 (w.heap.size + 2) (.int .i64 1)) (fun j e => by cases e; omega))
   clear hb7 k7 HP c3 c5
   gi_wp2
   have q := HKF.out
   rw [World.size_alloc] at q
   exact ⟨q, 1, by decide, HRES.out, HK7.out, HB7.out.setCell (p := ⟨w.heap.size + 2, 0, none⟩) (by simp; omega) _, by rw [World.size_setCell]; omega⟩
  ·have HRES : Hid (PutsR wd room t1 now its (saveX s wd) code []) := .inr ⟨hc, rfl, pre.length + 1, a1, hxl, HPTW.out, by rw [hxt]; exact .inr ⟨hpt7, hc, a2, hpi⟩⟩
   have k7 := Below.boxed hb7 HK6.out
   have c7 := k7.cell
   have f7 := k7.frozen
   have HB7 := hid (HBW.out.trans (hb7.mono (by omega)))
   have HK7 := hid (k7.set (.int .i64 code))
   have hz7 := hb7.size
   have HKF : Hid (KeepsFrom (w5.alloc (.cells #[.string s] 9)).heap.size W (w7.setCell ⟨w.heap.size + 2, 0, none⟩ (.int .i64 code))) := (KeepsFrom.of_grownBy (grown_of_below hb7) (fun j e => by cases e)).trans (KeepsFrom.of_grownBy (grownBy_setCell' w7 (w.heap.size + 2) (.int .i64 code)) (fun j e => by cases e; omega))
   clear hb7 k7 HP c3 c5
   gi_wp2
   have q := HKF.out
   rw [World.size_alloc] at q
   exact ⟨q, code, hc, HRES.out, HK7.out, HB7.out.setCell (p := ⟨w.heap.size + 2, 0, none⟩) (by simp; omega) _, by rw [World.size_setCell]; omega⟩
  ·have e1 : (pre ++ [x]).length + 1 = pre.length + 1 + 1 := by simp
   have hPT2 : PutTo wd room t1 now its (saveX s wd) ((pre ++ [x]).length + 1) a2 := by rw [e1]; exact .step HPTW.out hxl (by rw [hxt]; exact hpt7) (by rw [hxt]; exact hpi)
   have HSI : Hid (SI sb mb wd room its t1 (saveX s wd) now (.slice ac t1.length cc) (w5.alloc (.cells #[.string s] 9)) (pre ++ [x]) w7) := ⟨a2, hPT2, X7, M7, HBT.out.trans hbt7 (fun _ _ h => h)⟩
   have HKF : Hid (KeepsFrom (w5.alloc (.cells #[.string s] 9)).heap.size W w7) := ⟨hbt7.size, fun k o hk ho _ => (hbt7.block k (Array.getElem?_eq_some_iff.1 ho).1 (fun h => h.elim (fun h => by omega) (fun h => by omega))).trans ho⟩
   have hshelf : W.heap[sb]? = some (.cells #[.int .i64 wd, .int .i64 room, .int .i64 (totI a1 : Nat), .map (some mb), .slice ac t1.length cc] 74 (0, 0)) := HX.out
   obtain ⟨es, clock, hmapo, _⟩ := HM.out
   have HKP : Hid (KeepP w5.heap.size W w7) := ⟨fun k c hk => (hbt7.block k (Array.getElem?_eq_some_iff.1 hk).1 (fun h => h.elim (fun h => by subst h; rw [hshelf] at hk; simp at hk) (fun h => by subst h; rw [hmapo] at hk; simp at hk))).trans hk, hbt7.block _ (by omega) (fun h => h.elim (fun h => by omega) (fun h => by omega))⟩
   clear X7 M7 hbt7 HP c3 c5 hPT2 hshelf hmapo
   gi_wp2
   have q := HKF.out
   rw [World.size_alloc] at q
   exact ⟨q, HKP.out, HSI.out⟩
 case done =>
  rintro D W hD ⟨a1, hpt, X, M, hbt⟩ hK
  have hzz := hbt.size
  have HPS : Hid (SaveS wd room its ts s now 0 a1) := HSV.out _ _ (.inl ⟨rfl, hpt⟩)
  have hnb : ∀ b, w.heap.size ≤ b → ¬ (b = sb ∨ b = mb) := fun b hb h => h.elim (fun h => by omega) (fun h => by omega)
  have k6 := hbt.boxed HK66.out (hnb _ (by omega))
  have R := hbt.reads HR6.out (fun g e h => h.elim (fun h => HOFF.out.1 (by rw [e, h])) (fun h => HOFF.out.2 (by rw [e, h])))
  have hBW : Below B w W := HB6.out.trans (hbt.below (by omega) (fun b h => h.elim (fun h => by omega) (fun h => by omega)))
  have hg1 := grownBy_setCell' W (w.heap.size + 2) (.int .i64 0)
  have hDl : D < W.heap.size := (Array.getElem?_eq_some_iff.1 hK).1
  have hK1 := (hg1.block D hDl (fun e => by simp at e; omega)).trans hK
  have X1 := X.kept hg1 (fun e => by simp at e; omega)
  have M1 := M.kept hg1 (fun e => by simp at e; omega)
  have hlt := HLT.out
  have R1 := reads_far R hg1 (reads_not_box R k6 HADD.out)
  have B1 := hBW.setCell (p := ⟨w.heap.size + 2, 0, none⟩) (by simp; omega) (.int .i64 0)
  have K61 := k6.set (.int .i64 0)
  have HX1 := hid X1
  have HM1 := hid M1
  have HR1 := hid R1
  have HB1 := hid B1
  have HK61 := hid K61
  have HKD := hid hK1
  have c6 := k6.cell
  have f6 := k6.frozen
  clear X M hbt R hBW hg1 hK hK1 X1 M1 R1 B1 K61 k6 hpt bN HI0
  gi_wp2
  refine ⟨by simp, .inl ⟨_, _, rfl, run_takeDeferred HKD.out, ?_⟩⟩
  have hg2 := grownBy_putObj' (W.setCell ⟨w.heap.size + 2, 0, none⟩ (.int .i64 0)) D (.deferred none)
  have k7 := HK61.out.kept hg2 (fun e => by simp at e; omega)
  have c7 := k7.cell
  refine ⟨.int .i64 0, by simp [results, Tryz.results21, go_sem, c7], 0, a1, rfl, HPS.out, HB1.out.grown hg2 (by rw [World.size_setCell]; omega) (fun r e => by cases e; omega), Nat.le_trans (show w.heap.size ≤ (W.setCell ⟨w.heap.size + 2, 0, none⟩ (.int .i64 0)).heap.size by rw [World.size_setCell]; omega) hg2.size, fun _ => ⟨ac, cc, ?_⟩⟩
  rw [HT1.out]
  exact ⟨HX1.out.kept hg2 (fun e => by simp at e; omega), HM1.out.kept hg2 (fun e => by simp at e; omega), reads_far HR1.out hg2 (fun e => by have := hlt _ e; omega)⟩
 case stop =>
  rintro D pre W hD hpre ⟨code, hc, hps, hbx, hbl, hsz⟩ hK
  have HPS : Hid (SaveS wd room its ts s now code []) := HSV.out _ _ hps
  have HKD := hid hK
  have HBX := hid hbx
  have HBL := hid hbl
  have hDl : D < W.heap.size := (Array.getElem?_eq_some_iff.1 hK).1
  clear hK hbx hbl hps bN HI0
  gi_wp2
  refine ⟨by simp, .inl ⟨_, _, rfl, run_takeDeferred HKD.out, ?_⟩⟩
  have hg2 := grownBy_putObj' W D (.deferred none)
  have k7 := HBX.out.kept hg2 (fun e => by simp at e; omega)
  have c7 := k7.cell
  exact ⟨.int .i64 code, by simp [results, Tryz.results21, go_sem, c7], code, [], rfl, HPS.out, HBL.out.grown hg2 (by omega) (fun r e => by cases e; omega), by have := hg2.size; omega, fun h => absurd h hc⟩
end Go.Proofs.YtkjdabnglcabiaaGreatDoor
/- impl.Save. -/
namespace Go.Proofs.YtkjdabnglcabiaaGreatDoor
open Go.RowKit
set_option maxRecDepth 100000 in
set_option maxHeartbeats 4000000 in
theorem implSave_any (wd room : Int) (vi vp : Value) (its : Itms) (ts : List ByteArray) (s : ByteArray) (now : Int) (w : World) (hi : RdI w vi its) (hp : Reads w vp ts) (hli : its.length ≤ 1048576) (hlp : ts.length ≤ 1048576) (hsi : ∀ i, (itx its i).size ≤ 1048576) (hsp : ∀ i, (tv ts i).size ≤ 1048576) (hE : Errs w) :
  Calls Tryz.prog 5 #[.agg #[.int .i64 wd, .int .i64 room, vi, vp], .string s, .int .i64 now] w fun e w' => ∃ wd' room' its' ts' code vi' vp', e = .returned (.tuple #[.agg #[.int .i64 wd', .int .i64 room', vi', vp'], .int .i64 code]) ∧ SaveR wd room its ts s now wd' room' its' ts' code ∧ StoreOwn w' (w.heap.size + 2) vi' vp' its' ts' ∧ Below w.heap.size w w' := by
 obtain ⟨ai, ci, rfl, hci⟩ := hi
 obtain ⟨ap, cp, rfl, _⟩ := hp.form
 have hi : RdI w (.slice ai its.length ci) its := ⟨ai, ci, rfl, hci⟩
 have hA := ((Below.refl w.heap.size w).alloc (Nat.le_refl _) (.cells #[.int .i64 wd, .int .i64 room, .slice ai its.length ci, .slice ap ts.length cp] 26)).alloc (by simp) (.cells #[.int .i64 0, .int .i64 0, .slice none 0 0, .slice none 0 0] 26)
 have hN7 := Blk.new (w.alloc (.cells #[.int .i64 wd, .int .i64 room, .slice ai its.length ci, .slice ap ts.length cp] 26)) 26 #[.int .i64 0, .int .i64 0, .slice none 0 0, .slice none 0 0]
 rw [World.size_alloc] at hN7
 have HN7 := hid hN7
 have HO := hid (openStore_any wd room _ _ its ts _ (hi.below hA) (hp.below hA) hli hlp hsi hsp)
 have HA := hid hA
 have HSI := hid hsi
 have HSP := hid hsp
 have HE := hid hE
 clear hi hp hA hN7 hsi hsp hci hE
 go_enter Tryz.func5, Tryz.ntmps5
 go_wp2_with fail
 refine HO.out.mono ?_
 rintro e w1 (⟨hn, rfl, hb1⟩ | ⟨hv, sb, mb, vc, rfl, hsh, hb1⟩)
 ·have N7 := HN7.out.below hb1
  have B1 := HA.out.trans (hb1.mono (by simp; omega))
  have HF : Hid (SaveR wd room its ts s now 0 0 [] [] 1) := .inl ⟨fun h => hn h.1, rfl, rfl, rfl, rfl, rfl⟩
  have s9 := N7.store4 (.int .i64 0) (.int .i64 0) (.slice none 0 0) (.slice none 0 0)
  have s0 := s9.a0; have s1 := s9.a1; have s2 := s9.a2; have s3 := s9.a3
  have k0 := s9.f0; have k1 := s9.f1; have k2 := s9.f2; have k3 := s9.f3
  have Z := hid s9.z
  have BB := hid ((((B1.setCell (p := ⟨w.heap.size + 1, 0, none⟩) (by simp) (.int .i64 0)).setCell (p := ⟨w.heap.size + 1, 1, none⟩) (by simp) (.int .i64 0)).setCell (p := ⟨w.heap.size + 1, 2, none⟩) (by simp) (.slice none 0 0)).setCell (p := ⟨w.heap.size + 1, 3, none⟩) (by simp) (.slice none 0 0))
  clear s9
  clear N7 B1 hn hb1
  go_wp2
  refine bodyPost_ret (v := .tuple #[.agg #[.int .i64 0, .int .i64 0, .slice none 0 0, .slice none 0 0], .int .i64 1]) (by simp [results, Tryz.results5, go_sem, Z.out.cell]) rfl ⟨0, 0, [], [], 1, _, _, rfl, HF.out, StoreOwn.none _ _, BB.out⟩
 have N7 := HN7.out.below hb1
 have B1 := HA.out.trans (hb1.mono (by simp; omega))
 have hsbl := hsh.hs
 have hmbl := hsh.hm
 simp only [World.size_alloc] at hsbl hmbl
 have hrl : ∀ g, vc.ownBlock = some g → w.heap.size + 1 + 1 ≤ g := fun g e => by have := (hsh.row.lt g e).1; simpa using this
 obtain ⟨ac, cc, rfl, _⟩ := row_form hsh.row
 have hTM := fun W => isTime_any now W
 by_cases hsz : s.size ≤ 3000
 case neg =>
  have hszb : decide ((3000 : Int) < (s.size : Int)) = true := decide_eq_true (by omega)
  have HF : Hid (SaveR wd room its ts s now 0 0 [] [] 1) := .inl ⟨fun h => hsz h.2.1, rfl, rfl, rfl, rfl, rfl⟩
  have s9 := N7.store4 (.int .i64 0) (.int .i64 0) (.slice none 0 0) (.slice none 0 0)
  have s0 := s9.a0; have s1 := s9.a1; have s2 := s9.a2; have s3 := s9.a3
  have k0 := s9.f0; have k1 := s9.f1; have k2 := s9.f2; have k3 := s9.f3
  have Z := hid s9.z
  have BB := hid ((((B1.setCell (p := ⟨w.heap.size + 1, 0, none⟩) (by simp) (.int .i64 0)).setCell (p := ⟨w.heap.size + 1, 1, none⟩) (by simp) (.int .i64 0)).setCell (p := ⟨w.heap.size + 1, 2, none⟩) (by simp) (.slice none 0 0)).setCell (p := ⟨w.heap.size + 1, 3, none⟩) (by simp) (.slice none 0 0))
  clear s9 hsh hb1 N7 B1 hrl hv hTM
  go_wp2
  refine bodyPost_ret (v := .tuple #[.agg #[.int .i64 0, .int .i64 0, .slice none 0 0, .slice none 0 0], .int .i64 1]) (by simp [results, Tryz.results5, go_sem, Z.out.cell]) rfl ⟨0, 0, [], [], 1, _, _, rfl, HF.out, StoreOwn.none _ _, BB.out⟩
 have hszb : decide ((3000 : Int) < (s.size : Int)) = false := decide_eq_false (by omega)
 by_cases htm : 0 ≤ now ∧ now ≤ 1000000
 case neg =>
  have HF : Hid (SaveR wd room its ts s now 0 0 [] [] 1) := .inl ⟨fun h => htm h.2.2, rfl, rfl, rfl, rfl, rfl⟩
  rw [decide_eq_false htm] at hTM
  have HTM := hid hTM
  have s9 := N7.store4 (.int .i64 0) (.int .i64 0) (.slice none 0 0) (.slice none 0 0)
  have s0 := s9.a0; have s1 := s9.a1; have s2 := s9.a2; have s3 := s9.a3
  have k0 := s9.f0; have k1 := s9.f1; have k2 := s9.f2; have k3 := s9.f3
  have Z := hid s9.z
  have BB := hid ((((B1.setCell (p := ⟨w.heap.size + 1, 0, none⟩) (by simp) (.int .i64 0)).setCell (p := ⟨w.heap.size + 1, 1, none⟩) (by simp) (.int .i64 0)).setCell (p := ⟨w.heap.size + 1, 2, none⟩) (by simp) (.slice none 0 0)).setCell (p := ⟨w.heap.size + 1, 3, none⟩) (by simp) (.slice none 0 0))
  clear s9 hsh hb1 N7 B1 hrl hv hTM htm
  go_wp2_with (go_at_call 19; refine (HTM.out _).mono ?_; rintro e w' ⟨rfl, rfl⟩)
  refine bodyPost_ret (v := .tuple #[.agg #[.int .i64 0, .int .i64 0, .slice none 0 0, .slice none 0 0], .int .i64 1]) (by simp [results, Tryz.results5, go_sem, Z.out.cell]) rfl ⟨0, 0, [], [], 1, _, _, rfl, HF.out, StoreOwn.none _ _, BB.out⟩
 rw [decide_eq_true htm] at hTM
 have HTM := hid hTM
 have hbx := hsh.box
 rw [List.take_length] at hbx
 have HUP := hid (shelfSave_any sb mb (w.heap.size + 2) (.slice ac ts.length cc) wd room its ts s now w1 hbx hsh.map (ownsRow_base hsh.row (by simp)) hsh.ne hsh.ns hsh.nm hv (by omega) (by omega) (by have := N7.lt; omega) (fun W h => HE.out.below (B1.trans (h.mono (by omega)))))
 have HVAL := hid hv
 have HSVS : Hid (Saves wd room its ts s now) := ⟨hv, hsz, htm⟩
 have hs7 := N7.lt
 have hslt := hsh.box.lt
 have hn7 := hid N7
 have hb7 := hid B1
 clear hsh hb1 N7 B1 hrl hv hbx hTM htm
 go_wp2_with (go_at_call 19; refine (HTM.out _).mono ?_; rintro e w' ⟨rfl, rfl⟩)
 refine HUP.out.mono ?_
 rintro e w2 ⟨code, b, rfl, hss, hbl2, hz2, hok⟩
 have N2 := hn7.out.belowAt hbl2 (by omega)
 have B2 := hb7.out.trans (hbl2.mono (by omega))
 by_cases hc : code = 0
 case neg =>
  have HF : Hid (SaveR wd room its ts s now 0 0 [] [] code) := .inr ⟨HSVS.out, code, b, hss, rfl, .inl ⟨hc, rfl, rfl, rfl, rfl⟩⟩
  clear hok hss hbl2
  go_wp2_with fail
  refine (answer_no sb code _ hc).mono ?_
  rintro e w3 ⟨rfl, hb3⟩
  have N3 := N2.below hb3
  have B3 := B2.trans (hb3.mono B2.size)
  have s9 := N3.store4 (.int .i64 0) (.int .i64 0) (.slice none 0 0) (.slice none 0 0)
  have s0 := s9.a0; have s1 := s9.a1; have s2 := s9.a2; have s3 := s9.a3
  have k0 := s9.f0; have k1 := s9.f1; have k2 := s9.f2; have k3 := s9.f3
  have Z := hid s9.z
  have BB := hid ((((B3.setCell (p := ⟨w.heap.size + 1, 0, none⟩) (by simp) (.int .i64 0)).setCell (p := ⟨w.heap.size + 1, 1, none⟩) (by simp) (.int .i64 0)).setCell (p := ⟨w.heap.size + 1, 2, none⟩) (by simp) (.slice none 0 0)).setCell (p := ⟨w.heap.size + 1, 3, none⟩) (by simp) (.slice none 0 0))
  clear s9 N2 B2 N3 B3 hb3
  go_wp2
  refine bodyPost_ret (v := .tuple #[.agg #[.int .i64 0, .int .i64 0, .slice none 0 0, .slice none 0 0], .int .i64 code]) (by simp [results, Tryz.results5, go_sem, Z.out.cell]) rfl ⟨0, 0, [], [], code, _, _, rfl, HF.out, StoreOwn.none _ _, BB.out⟩
 subst hc
 obtain ⟨a2, c2, X2, M2, R2⟩ := hok rfl
 have hvb := hss.valid HVAL.out
 have hwd := of_decide_eq_true hvb.width
 have hAA := ascI_of hvb.each
 have HAN := hid (answer_yes sb mb b.length (.slice a2 (addT (nameB s wd) ts).length c2) wd room _ b (addT (nameB s wd) ts) (mapI wd b b.length) w2 X2 M2 (mapI_tidy wd b b.length) hAA.lt (fun x => (mapI_all wd b x).symm) (fun j hj z => mapI_at wd b hAA.lt z b.length (Nat.le_refl _) j hj) R2 (by have := hvb.items; omega) (by have := hvb.pins; omega) (fun i => pin_small hvb.sums hwd.2 i) (fun i => item_small hvb.each i))
 have HF : Hid (SaveR wd room its ts s now wd room b (addT (nameB s wd) ts) 0) := .inr ⟨HSVS.out, 0, b, hss, rfl, .inr ⟨rfl, rfl, rfl, rfl, rfl⟩⟩
 have hn2 := hid N2
 have hb2 := hid B2
 have hs2 := N2.lt
 clear X2 M2 R2 hbl2 N2 B2 hAA hvb hwd hok hss
 generalize addT (nameB s wd) ts = ts1 at *
 go_wp2_with fail
 refine HAN.out.mono ?_
 rintro e w3 ⟨v3, p3, rfl, so3, hb3⟩
 obtain ⟨a8, c8, rfl⟩ := row_any so3.items
 obtain ⟨b8, d8, rfl⟩ := row_any so3.pins
 have N3 := hn2.out.below hb3
 have B3 := hb2.out.trans (hb3.mono hb2.out.size)
 have s9 := N3.store4 (.int .i64 wd) (.int .i64 room) (.slice a8 b.length c8) (.slice b8 ts1.length d8)
 have s0 := s9.a0; have s1 := s9.a1; have s2 := s9.a2; have s3 := s9.a3
 have k0 := s9.f0; have k1 := s9.f1; have k2 := s9.f2; have k3 := s9.f3
 have Z := hid s9.z
 have BB := hid ((((B3.setCell (p := ⟨w.heap.size + 1, 0, none⟩) (by simp) (.int .i64 wd)).setCell (p := ⟨w.heap.size + 1, 1, none⟩) (by simp) (.int .i64 room)).setCell (p := ⟨w.heap.size + 1, 2, none⟩) (by simp) (.slice a8 b.length c8)).setCell (p := ⟨w.heap.size + 1, 3, none⟩) (by simp) (.slice b8 ts1.length d8))
 clear s9
 have GG := fun (x : World) (j : Nat) (y : Value) => grownBy_setCellAt x (w.heap.size + 1) j y
 have SO4 := hid ((((so3.kept (GG _ 0 (.int .i64 wd)) (by omega)).kept (GG _ 1 (.int .i64 room)) (by omega)).kept (GG _ 2 (.slice a8 b.length c8)) (by omega)).kept (GG _ 3 (.slice b8 ts1.length d8)) (by omega))
 clear GG so3 hb3 N3 B3
 go_wp2
 refine bodyPost_ret (v := .tuple #[.agg #[.int .i64 wd, .int .i64 room, .slice a8 b.length c8, .slice b8 ts1.length d8], .int .i64 0]) (by simp [results, Tryz.results5, go_sem, Z.out.cell]) rfl ⟨wd, room, b, ts1, 0, _, _, rfl, HF.out, SO4.out.base (by omega), BB.out⟩
end Go.Proofs.YtkjdabnglcabiaaGreatDoor
