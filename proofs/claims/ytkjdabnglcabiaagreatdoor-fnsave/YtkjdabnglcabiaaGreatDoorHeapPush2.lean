import Derived.Test.YtkjdabnglcabiaaGreatDoorPutMath
import Derived.Test.YtkjdabnglcabiaaGreatDoorShelfStore
import Derived.Test.YtkjdabnglcabiaaGreatDoorMark2
import Derived.Maps.Range
import Derived.Test.YtkjdabnglcabiaaGreatDoorShort
import Derived.BigRegion
/- The row of what may leave; frames with some blocks left out. -/
namespace Go.Proofs.YtkjdabnglcabiaaGreatDoor
open Go.RowKit
/-- All blocks but some are as they were. -/
structure But (P : Nat → Prop) (w w' : World) : Prop where
 os : w'.os = w.os
 tape : w'.tape = w.tape
 output : w'.output = w.output
 size : w.heap.size ≤ w'.heap.size
 block : ∀ b, b < w.heap.size → ¬ P b → w'.heap[b]? = w.heap[b]?
theorem But.refl (P : Nat → Prop) (w : World) : But P w w := ⟨rfl, rfl, rfl, Nat.le_refl _, fun _ _ _ => rfl⟩
theorem But.of_grown {P : Nat → Prop} {w w' : World} {b : Nat} (h : w.grownBy w' (some b)) (hP : P b) : But P w w' := ⟨h.os, h.tape, h.output, h.size, fun k hk hn => h.block k hk (fun e => hn (by cases e; exact hP))⟩
theorem But.of_none {P : Nat → Prop} {w w' : World} (h : w.grownBy w' none) : But P w w' := ⟨h.os, h.tape, h.output, h.size, fun k hk _ => h.block k hk (by simp)⟩
theorem But.of_below {P : Nat → Prop} {w w' : World} (h : Below w.heap.size w w') : But P w w' := ⟨h.os, h.tape, h.output, h.size, fun k hk _ => h.block k hk⟩
theorem But.trans {P Q : Nat → Prop} {a b c : World} (h : But P a b) (k : But Q b c) (hQ : ∀ i, i < a.heap.size → Q i → P i) : But P a c :=
 ⟨k.os.trans h.os, k.tape.trans h.tape, k.output.trans h.output, Nat.le_trans h.size k.size, fun i hi hn => (k.block i (Nat.lt_of_lt_of_le hi h.size) (fun q => hn (hQ i hi q))).trans (h.block i hi hn)⟩
theorem But.below {P : Nat → Prop} {w w' : World} {B : Nat} (h : But P w w') (hB : B ≤ w.heap.size) (hP : ∀ b, P b → B ≤ b) : Below B w w' :=
 ⟨h.os, h.tape, h.output, h.size, fun k hk => h.block k (by omega) (fun p => by have := hP k p; omega)⟩
theorem But.blk {P : Nat → Prop} {w w' : World} (h : But P w w') {b : Nat} {T : TypeId} {cs : Array Value} (hb : Blk w b T cs) (hn : ¬ P b) : Blk w' b T cs := (h.block b hb.lt hn).trans hb
theorem But.row {P : Nat → Prop} {w w' : World} (h : But P w w') {B size n : Nat} {e : TypeId} {v : Value} {xs : List Value} (hr : w.ownsRow B e size v n xs) (hn : ∀ g, v.ownBlock = some g → ¬ P g) : w'.ownsRow B e size v n xs := by
 obtain ⟨h1, h2 | ⟨g, cap, cur, e1, e2, e3, e4, e5, e6, e7⟩⟩ := hr
 ·exact ⟨h1, .inl h2⟩
 ·subst e1
  exact ⟨h1, .inr ⟨g, cap, cur, rfl, e2, (h.block g (Array.getElem?_eq_some_iff.1 e3).1 (hn g rfl)).trans e3, e4, e5, e6, e7⟩⟩
theorem But.map {P : Nat → Prop} {w w' : World} (h : But P w w') {Pr : Program} {k : TypeId} {R : Value → Option (DataW Unit × List MemPlace)} {b n : Nat} {D : DataW Unit} (hm : w.ownsMap Pr k R b n D) (hn : ¬ P b) : w'.ownsMap Pr k R b n D := by
 have hlt := hm.lt
 obtain ⟨es, clock, e1, e2⟩ := hm
 exact ⟨es, clock, (h.block b hlt hn).trans e1, e2⟩
theorem But.ranges {P : Nat → Prop} {w w' : World} (h : But P w w') {Pr : Program} {k : TypeId} {R : Value → Option (DataW Unit × List MemPlace)} {b r n : Nat} {D : DataW Unit} {left : Lit → Bool} {cnt : Nat} (hm : w.ranges Pr k R b r n D left cnt) (hb : ¬ P b) (hr : ¬ P r) : w'.ranges Pr k R b r n D left cnt := by
 have hl1 := hm.owns.lt
 have hl2 := hm.lt
 obtain ⟨es, clock, since, seen, c0, e1, e2, e3, e4, e5, e6⟩ := hm
 exact ⟨es, clock, since, seen, c0, (h.block b hl1 hb).trans e1, e2, e3, e4, (h.block r hl2 hr).trans e5, e6⟩
theorem But.mono {P Q : Nat → Prop} {w w' : World} (h : But P w w') (hPQ : ∀ b, b < w.heap.size → P b → Q b) : But Q w w' := ⟨h.os, h.tape, h.output, h.size, fun b hb hn => h.block b hb (fun p => hn (hPQ b hb p))⟩
/-! The row -/
def LRow (w : World) (B : Nat) (v : Value) (hs : List Lv) : Prop := w.ownsRow B 132 2 v hs.length (cellsI hs)
theorem LRow.nil (w : World) (B : Nat) : LRow w B (.slice none 0 0) [] := World.ownsRow_nil _ _ _ _
theorem LRow.far {w w' : World} {B b : Nat} {v : Value} {hs : List Lv} (h : LRow w B v hs) (hg : w.grownBy w' (some b)) (hn : v.ownBlock ≠ some b) : LRow w' B v hs := World.ownsRow.kept h hg (.inr hn)
theorem LRow.below {w w' : World} {B : Nat} {v : Value} {hs : List Lv} (h : LRow w B v hs) (hb : Below w.heap.size w w') : LRow w' B v hs := World.ownsRow.kept h (grown_of_below hb) (by cases hv : v.ownBlock <;> simp)
theorem LRow.form {w : World} {B : Nat} {v : Value} {hs : List Lv} (h : LRow w B v hs) (h0 : 0 < hs.length) : ∃ g cap, v = .slice (some ⟨g, 0, none⟩) hs.length cap ∧ B ≤ g ∧ g < w.heap.size := by
 obtain ⟨_, ⟨_, e⟩ | ⟨g, cap, cur, e1, e2, e3, _⟩⟩ := h
 ·omega
 ·exact ⟨g, cap, e1, e2, (Array.getElem?_eq_some_iff.1 e3).1⟩
theorem LRow.cell {w : World} {B g n cap : Nat} {hs : List Lv} (h : LRow w B (.slice (some ⟨g, 0, none⟩) n cap) hs) (i : Nat) (hi : i < hs.length) : w.cell? ⟨g, i * 2, none⟩ = some (.string (hv hs i).1) ∧ w.cell? ⟨g, i * 2 + 1, none⟩ = some (.int .i64 (hv hs i).2) := by
 obtain ⟨c0, c1⟩ := cellsI_at hs i hi
 have e : ∀ j, (⟨g, 0, none⟩ : Addr).add j = ⟨g, j, none⟩ := fun j => by simp [Addr.add]; intro h; exact h.symm
 have k := World.ownsRow.cells h (g := g) rfl
 refine ⟨?_, ?_⟩
 ·rw [← e]; exact k _ _ c0
 ·rw [← e]; exact k _ _ c1
theorem LRow.fz {w : World} {B g n cap : Nat} {hs : List Lv} (h : LRow w B (.slice (some ⟨g, 0, none⟩) n cap) hs) (i : Nat) : w.frozen? ⟨g, i, none⟩ = false := by
 obtain ⟨_, ⟨e, _⟩ | ⟨g', cap', cur, e1, e2, e3, _⟩⟩ := h
 ·cases e
 ·cases e1
  exact Blk.fz (T := 132) (cs := cur) e3 i
theorem cellsL_set2 : ∀ (hs : List Lv) (i : Nat) (a : ByteArray) (u : Int), i < hs.length → ((cellsI hs).set (i * 2) (.string a)).set (i * 2 + 1) (.int .i64 u) = cellsI (hs.set i (a, u))
 | [], _, _, _, h => absurd h (by simp)
 | p :: r, 0, a, u, _ => by simp [cellsI]
 | p :: r, i + 1, a, u, h => by
  have ih := cellsL_set2 r i a u (by simpa using h)
  have e1 : (i + 1) * 2 = i * 2 + 2 := by omega
  have e2 : (i + 1) * 2 + 1 = (i * 2 + 1) + 2 := by omega
  show ((Value.string p.1 :: Value.int .i64 p.2 :: cellsI r).set ((i + 1) * 2) (.string a)).set ((i + 1) * 2 + 1) (.int .i64 u) = Value.string p.1 :: Value.int .i64 p.2 :: cellsI (r.set i (a, u))
  rw [e2, e1]
  simp only [List.set_cons_succ]
  rw [ih]
/-- One place of the row, stored anew. -/
theorem LRow.set {w : World} {B g n cap : Nat} {hs : List Lv} (h : LRow w B (.slice (some ⟨g, 0, none⟩) n cap) hs) (i : Nat) (hi : i < hs.length) (a : ByteArray) (u : Int) : LRow ((w.setCell ⟨g, i * 2, none⟩ (.string a)).setCell ⟨g, i * 2 + 1, none⟩ (.int .i64 u)) B (.slice (some ⟨g, 0, none⟩) n cap) (hs.set i (a, u)) := by
 obtain ⟨h1, ⟨e, _⟩ | ⟨g', cap', cur, e1, e2, e3, e4, e5, e6, e7⟩⟩ := h
 ·cases e
 ·cases e1
  have b1 := Blk.set (Blk.set (show Blk w g 132 cur from e3) (i * 2) (.string a)) (i * 2 + 1) (.int .i64 u)
  refine ⟨by rw [cellsI_len, List.length_set], .inr ⟨g, cap, _, by rw [List.length_set], e2, b1, by rw [List.length_set]; exact e4, e5, by simp [e6], ?_⟩⟩
  rw [List.length_set, Array.toList_setIfInBounds, Array.toList_setIfInBounds, List.take_set, List.take_set, e7, cellsL_set2 hs i a u hi]
/-- One fewer. -/
theorem LRow.take {w : World} {B g n cap : Nat} {hs : List Lv} (h : LRow w B (.slice (some ⟨g, 0, none⟩) n cap) hs) (k : Nat) (hk : k ≤ hs.length) : LRow w B (.slice (some ⟨g, 0, none⟩) k cap) (hs.take k) := by
 obtain ⟨h1, ⟨e, _⟩ | ⟨g', cap', cur, e1, e2, e3, e4, e5, e6, e7⟩⟩ := h
 ·cases e
 ·cases e1
  have hl : (hs.take k).length = k := by simp; omega
  refine ⟨by rw [cellsI_len], .inr ⟨g, cap, cur, by rw [hl], e2, e3, by omega, e5, e6, ?_⟩⟩
  have e8 : cellsI (hs.take k) = (cellsI hs).take (k * 2) := by
   have e9 := cellsI_len (hs.take k)
   rw [hl] at e9
   have e10 : cellsI hs = cellsI (hs.take k) ++ cellsI (hs.drop k) := by
    conv => lhs; rw [← List.take_append_drop k hs]
    unfold cellsI
    rw [List.flatMap_append]
   rw [e10, ← e9, List.take_left]
  rw [hl, e8, ← e7, List.take_take]
  congr 1
  omega
end Go.Proofs.YtkjdabnglcabiaaGreatDoor
/- impl.leavesFirst and (*impl.heap).push. -/
namespace Go.Proofs.YtkjdabnglcabiaaGreatDoor
open Go.RowKit
set_option maxRecDepth 100000 in
set_option maxHeartbeats 1000000 in
theorem leavesFirst_any (a b : Lv) (w : World) :
  Calls Tryz.prog 105 #[.agg #[.string a.1, .int .i64 a.2], .agg #[.string b.1, .int .i64 b.2]] w fun e w' => e = .returned (.bool (lfB a b)) ∧ Below w.heap.size w w' := by
 obtain ⟨sa, ua⟩ := a
 obtain ⟨sb, ub⟩ := b
 have HA := hid (((Below.refl w.heap.size w).alloc (Nat.le_refl _) (.cells #[.string sa, .int .i64 ua] 132)).alloc (by simp) (.cells #[.string sb, .int .i64 ub] 132))
 have HE := hid (show lfB (sa, ua) (sb, ub) = (decide (ua < ub) || (decide (ua = ub) && Op.bytesLess sa.toList sb.toList)) from rfl)
 by_cases h1 : ua < ub
 ·have HR : Hid (lfB (sa, ua) (sb, ub) = true) := hid (by rw [HE.out]; simp [h1])
  clear HE
  go_enter Tryz.func105, Tryz.ntmps105
  go_wp2
  go_ret
  exact ⟨by rw [HR.out]; rfl, HA.out⟩
 ·by_cases h2 : ua = ub
  ·subst h2
   cases h3 : Op.bytesLess sa.toList sb.toList with
   | true =>
    have HR : Hid (lfB (sa, ua) (sb, ua) = true) := hid (by rw [HE.out]; simp [h3])
    clear HE
    go_enter Tryz.func105, Tryz.ntmps105
    go_wp2
    go_ret
    exact ⟨by rw [HR.out]; rfl, HA.out⟩
   | false =>
    have HR : Hid (lfB (sa, ua) (sb, ua) = false) := hid (by rw [HE.out]; simp [h3])
    clear HE
    go_enter Tryz.func105, Tryz.ntmps105
    go_wp2
    go_ret
    exact ⟨by rw [HR.out]; rfl, HA.out⟩
  ·have HR : Hid (lfB (sa, ua) (sb, ub) = false) := hid (by rw [HE.out]; simp [h1, h2])
   clear HE
   go_enter Tryz.func105, Tryz.ntmps105
   go_wp2
   go_ret
   exact ⟨by rw [HR.out]; rfl, HA.out⟩
abbrev fFirst : Value := .func (.func 105) #[] #[]
theorem Tryz.infoLeaver : (Tryz.prog.info? 132).map (fun i => (i.zero, i.size, i.bytes)) = some (some (.agg #[.string ⟨#[]⟩, .int .i64 0]), 2, 24) := by kernel_rfl
end Go.Proofs.YtkjdabnglcabiaaGreatDoor
/- (*impl.heap).push. -/
namespace Go.Proofs.YtkjdabnglcabiaaGreatDoor
open Go.RowKit
/-- What push leaves. -/
def PushR (hb B : Nat) (v : Value) (hs : List Lv) (l : Lv) (w : World) (w' : World) : Prop :=
 ∃ v' hs', hs'.Perm (l :: hs) ∧ HpL hs' ∧ Blk w' hb 151 #[v', fFirst] ∧ LRow w' B v' hs' ∧ But (fun b => b = hb ∨ v.ownBlock = some b) w w'
set_option maxRecDepth 100000 in
set_option maxHeartbeats 8000000 in
theorem heapPush_any (hb B : Nat) (v : Value) (hs : List Lv) (s : ByteArray) (u : Int) (w : World) (hbx : Blk w hb 151 #[v, fFirst]) (hrow : LRow w B v hs) (hne : hb < B) (hp : HpL hs) (hlen : hs.length ≤ 1000) (hBw : B ≤ w.heap.size) :
  Calls Tryz.prog 106 #[.pointer (some ⟨hb, 0, none⟩), .agg #[.string s, .int .i64 u]] w fun e w' => e = .returned (.tuple #[]) ∧ PushR hb B v hs (s, u) w w' := by
 obtain ⟨i0, hi0, hz0, hz1, hz2⟩ := info_parts Tryz.infoLeaver
 obtain ⟨av, cv, rfl⟩ := row_any hrow
 have hA := (Below.refl w.heap.size w).alloc (Nat.le_refl _) (.cells #[.string s, .int .i64 u] 132)
 have HB0 := hid hbx
 have HR0 := hid hrow
 have HP := hid hp
 have HN := hid (Blk.new w 132 #[.string s, .int .i64 u])
 have HX := hid (hbx.below hA)
 have HR := hid (World.ownsRow.alloc hrow (.cells #[.string s, .int .i64 u] 132))
 have hbl := hbx.lt
 have x0 : (w.alloc (.cells #[.string s, .int .i64 u] 132)).drew.cell? ⟨hb, 0, none⟩ = some (.slice av hs.length cv) := (hbx.below hA).cell 0
 have hS0 : (w.alloc (.cells #[.string s, .int .i64 u] 132)).drew.cell? ⟨w.heap.size, 0, none⟩ = some (.string s) ∧ (w.alloc (.cells #[.string s, .int .i64 u] 132)).drew.cell? ⟨w.heap.size, 1, none⟩ = some (.int .i64 u) ∧ (w.alloc (.cells #[.string s, .int .i64 u] 132)).drew.cell? ⟨hb, 0, none⟩ = some (.slice av hs.length cv) := ⟨HN.out.cell 0, HN.out.cell 1, HX.out.cell 0⟩
 clear hbx hrow hp hA x0
 go_enter Tryz.func106, Tryz.ntmps106
 go_wp2_with fail
 refine wp_region_last 10 (S := fun w' => w'.cell? ⟨w.heap.size, 0, none⟩ = some (.string s) ∧ w'.cell? ⟨w.heap.size, 1, none⟩ = some (.int .i64 u) ∧ w'.cell? ⟨hb, 0, none⟩ = some (.slice av hs.length cv)) (by kernel_rfl) ?_
 change wpAnyC _ _ _ _ _ _ _ _ _ (World.drew _)
 refine tkL 0 (.pointer (some ⟨hb, 0, none⟩)) rfl hS0 ?_
 refine tkL 1 (.pointer (some ⟨hb, 0, none⟩)) rfl hS0 ?_
 refine tkL 2 (.pointer (some ⟨hb, 0, none⟩)) rfl hS0 ?_
 refine tkL 3 (.pointer (some ⟨hb, 0, none⟩)) rfl hS0 ?_
 refine tkL 4 (.slice av hs.length cv) rfl hS0 ?_
 refine tkL 5 (.agg #[.string s, .int .i64 u]) rfl hS0 ?_
 have HN1 : Blk ((w.alloc (.cells #[.string s, .int .i64 u] 132)).drew.alloc (.cells #[.string s, .int .i64 u] 132)) w.heap.size 132 #[.string s, .int .i64 u] := Blk.alloc (W := (w.alloc (.cells #[.string s, .int .i64 u] 132)).drew) HN.out (.cells #[.string s, .int .i64 u] 132)
 have HX1 : Blk ((w.alloc (.cells #[.string s, .int .i64 u] 132)).drew.alloc (.cells #[.string s, .int .i64 u] 132)) hb 151 #[.slice av hs.length cv, fFirst] := Blk.alloc (W := (w.alloc (.cells #[.string s, .int .i64 u] 132)).drew) HX.out (.cells #[.string s, .int .i64 u] 132)
 have hS1 : ((w.alloc (.cells #[.string s, .int .i64 u] 132)).drew.alloc (.cells #[.string s, .int .i64 u] 132)).cell? ⟨w.heap.size, 0, none⟩ = some (.string s) ∧ ((w.alloc (.cells #[.string s, .int .i64 u] 132)).drew.alloc (.cells #[.string s, .int .i64 u] 132)).cell? ⟨w.heap.size, 1, none⟩ = some (.int .i64 u) ∧ ((w.alloc (.cells #[.string s, .int .i64 u] 132)).drew.alloc (.cells #[.string s, .int .i64 u] 132)).cell? ⟨hb, 0, none⟩ = some (.slice av hs.length cv) := ⟨HN1.cell 0, HN1.cell 1, HX1.cell 0⟩
 have HR1 : Hid (((w.alloc (.cells #[.string s, .int .i64 u] 132)).drew.alloc (.cells #[.string s, .int .i64 u] 132)).ownsRow B 132 2 (.slice av hs.length cv) hs.length (cellsI hs)) := World.ownsRow.alloc HR.out (.cells #[.string s, .int .i64 u] 132)
 have HX1' := hid HX1
 have HN1' := hid HN1
 clear HN1 HX1
 have HNW : Hid (∀ j x, [Value.string s, Value.int .i64 u][j]? = some x → ((w.alloc (.cells #[.string s, .int .i64 u] 132)).drew.alloc (.cells #[.string s, .int .i64 u] 132)).cell? ((⟨w.heap.size + 1, 0, none⟩ : Addr).add j) = some x) := by
  have h := two_new (w.alloc (.cells #[.string s, .int .i64 u] 132)).drew (.string s) (.int .i64 u) 132
  rw [show (w.alloc (.cells #[.string s, .int .i64 u] 132)).drew.heap.size = w.heap.size + 1 from World.size_alloc ..] at h
  exact hid h
 refine last_one 6 (by kernel_rfl) (op_value (v := .slice (some ⟨w.heap.size + 1, 0, none⟩) 1 1) (w' := (w.alloc (.cells #[.string s, .int .i64 u] 132)).drew.alloc (.cells #[.string s, .int .i64 u] 132)) rfl rfl (by go_simp) ⟨fun _ => hS1, ?_⟩)
 refine last_one 7 (by kernel_rfl) (op_wp rfl rfl (wp_append_lies _ (.tmp 10) (.tmp 12) 149 rfl B 132 i0 (.agg #[.string ⟨#[]⟩, .int .i64 0]) 2 24 Tryz.underlying149 hi0 hz0 hz1 hz2 rfl (by decide) (.slice av hs.length cv) hs.length (cellsI hs) (by go_simp) HR1.out ⟨w.heap.size + 1, 0, none⟩ 1 1 [.string s, .int .i64 u] (by go_simp) rfl HNW.out (by simp [Value.oneCell']) (by decide) (by unfold maxLen; omega) (by omega) (by simp; omega) (w.heap.size + 2) (by simp) ?_))
 intro g cap w4 hown4 hgrow4 hgo hgl
 have hrl : ∀ g, (Value.slice av hs.length cv).ownBlock = some g → B ≤ g ∧ g < w.heap.size := HR0.out.lt
 have hL4 : LRow w4 B (.slice (some ⟨g, 0, none⟩) (hs.length + 1) cap) (hs ++ [(s, u)]) := by
  unfold LRow
  have e1 : (hs ++ [(s, u)]).length = hs.length + 1 := by simp
  have e2 : cellsI (hs ++ [(s, u)]) = cellsI hs ++ [.string s, .int .i64 u] := by unfold cellsI; rw [List.flatMap_append]; rfl
  rw [e1, e2]; exact hown4
 have hgB : B ≤ g := (World.ownsRow.lt hown4 g rfl).1
 have X4 := HX1'.out.kept hgrow4 (fun e => by have := (hrl hb e.symm).1; omega)
 have N4 := HN1'.out.kept hgrow4 (fun e => by have := (hrl _ e.symm).2; omega)
 have hS4 : w4.cell? ⟨w.heap.size, 0, none⟩ = some (.string s) ∧ w4.cell? ⟨w.heap.size, 1, none⟩ = some (.int .i64 u) ∧ w4.cell? ⟨hb, 0, none⟩ = some (.slice av hs.length cv) := ⟨N4.cell 0, N4.cell 1, X4.cell 0⟩
 refine ⟨fun _ => hS4, ?_⟩
 refine tkL 8 (.pointer (some ⟨hb, 0, none⟩)) rfl hS4 ?_
 refine tkL 9 (.pointer (some ⟨hb, 0, none⟩)) rfl hS4 ?_
 have f4 := X4.fz 0
 have X5 := X4.set 0 (.slice (some ⟨g, 0, none⟩) (hs.length + 1) cap)
 have L5 := hL4.far (grownBy_setCellAt w4 hb 0 (.slice (some ⟨g, 0, none⟩) (hs.length + 1) cap)) (fun e => by have e' : g = hb := Option.some.inj e; omega)
 have T5 : But (fun b => b = hb ∨ (Value.slice av hs.length cv).ownBlock = some b) w (w4.setCell ⟨hb, 0, none⟩ (.slice (some ⟨g, 0, none⟩) (hs.length + 1) cap)) := by
  have t1 : But (fun b => b = hb ∨ (Value.slice av hs.length cv).ownBlock = some b) w ((w.alloc (.cells #[.string s, .int .i64 u] 132)).drew.alloc (.cells #[.string s, .int .i64 u] 132)) := But.of_below ((below_drewN ((Below.refl w.heap.size w).alloc (Nat.le_refl _) (.cells #[.string s, .int .i64 u] 132)) 1).alloc (by show _ ≤ (w.alloc (.cells #[.string s, .int .i64 u] 132)).heap.size; rw [World.size_alloc]; omega) (.cells #[.string s, .int .i64 u] 132))
  have t2 : But (fun b => b = hb ∨ (Value.slice av hs.length cv).ownBlock = some b) ((w.alloc (.cells #[.string s, .int .i64 u] 132)).drew.alloc (.cells #[.string s, .int .i64 u] 132)) w4 := ⟨hgrow4.os, hgrow4.tape, hgrow4.output, hgrow4.size, fun k hk hn => hgrow4.block k hk (fun e => hn (.inr e.symm))⟩
  have t3 := But.of_grown (P := fun b => b = hb ∨ (Value.slice av hs.length cv).ownBlock = some b) (grownBy_setCellAt w4 hb 0 (.slice (some ⟨g, 0, none⟩) (hs.length + 1) cap)) (.inl rfl)
  exact (t1.trans t2 fun _ _ h => h).trans t3 fun _ _ h => h
 obtain ⟨s1, s2, s3⟩ := hS4
 refine last_one 10 (by kernel_rfl) (op_skip (w' := w4.setCell ⟨hb, 0, none⟩ (.slice (some ⟨g, 0, none⟩) (hs.length + 1) cap)) rfl rfl (by go_simp) ⟨fun h => absurd rfl h, last_done (by kernel_rfl) ?_ _⟩)
 have HX5 : Hid (Blk (w4.setCell ⟨hb, 0, none⟩ (.slice (some ⟨g, 0, none⟩) (hs.length + 1) cap)) hb 151 #[.slice (some ⟨g, 0, none⟩) (hs.length + 1) cap, fFirst]) := hid X5
 have HL5 := hid L5
 have HT5 := hid T5
 have HG5 : Hid (g < (w4.setCell ⟨hb, 0, none⟩ (.slice (some ⟨g, 0, none⟩) (hs.length + 1) cap)).heap.size) := hid (by have := (grownBy_setCellAt w4 hb 0 (.slice (some ⟨g, 0, none⟩) (hs.length + 1) cap)).size; omega)
 generalize w4.setCell ⟨hb, 0, none⟩ (.slice (some ⟨g, 0, none⟩) (hs.length + 1) cap) = W5 at HX5 HL5 HT5 HG5 ⊢
 clear X4 N4 X5 L5 T5 s1 s2 s3 f4 hL4 hown4 hgrow4 hS0 hS1 HNW HR1 HN1' HX1' HN HX HR hrl
 go_simp
 have x0 : W5.cell? ⟨hb, 0, none⟩ = some (.slice (some ⟨g, 0, none⟩) (hs.length + 1) cap) := HX5.out.cell 0
 have HPM : Hid ((hs ++ [(s, u)]).Perm ((s, u) :: hs)) := hid (List.perm_append_singleton _ _)
 have HUP := hid (Up.push lfB lv0 HP.out (s, u))
 have HGO := hid hgo
 clear hgo
 go_wp2
 clear x0
 go_loopw [4] (fun iv wr => ∃ (k : Nat) (hs' : List Lv), iv = .int .i64 k ∧ hs'.length = hs.length + 1 ∧ hs'.Perm ((s, u) :: hs) ∧ Up lfB lv0 hs' k ∧ Blk wr hb 151 #[.slice (some ⟨g, 0, none⟩) (hs.length + 1) cap, fFirst] ∧ LRow wr B (.slice (some ⟨g, 0, none⟩) (hs.length + 1) cap) hs' ∧ W5.grownBy wr (some g)) (fun iv _ => (intOf iv).toNat)
 case atStart => exact ⟨hs.length, hs ++ [(s, u)], rfl, by simp, HPM.out, HUP.out, HX5.out, HL5.out, grown_refl2 _ _⟩
 case round =>
  obtain ⟨k, hs', rfl, hl', hpm, hup, hbx, hrw, hgr⟩ := hrel
  have HPM' := hid hpm
  have HUP' := hid hup
  have HBX := hid hbx
  have HRW := hid hrw
  have HGR := hid hgr
  have HL' := hid hl'
  have HEND : Hid (∀ wz, wr.grownBy wz (some g) → But (fun b => b = hb ∨ (Value.slice av hs.length cv).ownBlock = some b) w wz) := hid fun wz hz => by
   refine HT5.out.trans (But.of_grown (P := fun b => b = g) (grown_same HGR.out hz) rfl) fun i hi e => ?_
   subst e
   rcases HGO.out with e | e
   ·exact .inr e
   ·omega
  have hk' := hup.hlt
  rw [hl'] at hk'
  have x0 : wr.cell? ⟨hb, 0, none⟩ = some (.slice (some ⟨g, 0, none⟩) (hs.length + 1) cap) := hbx.cell 0
  have x1 : wr.cell? ⟨hb, 1, none⟩ = some fFirst := hbx.cell 1
  by_cases hk0 : k = 0
  ·subst hk0
   have HD := hid (hup.done lfB lv0 (.inl rfl))
   clear hpm hup hbx hrw hgr hl'
   go_wp2
   refine bodyPost_end (results_none rfl _ _ _) rfl ?_
   exact ⟨rfl, _, hs', HPM'.out, HD.out, HBX.out, HRW.out, HEND.out wr (grown_refl2 _ _)⟩
  have hk1 : (0 : Int) < (k : Int) := by omega
  obtain ⟨q, hqd⟩ : ∃ q, q = (k - 1) / 2 := ⟨_, rfl⟩
  have hq : ((k : Int) - 1).tdiv 2 = (q : Int) := by
   rw [show ((k : Int) - 1) = ((k - 1 : Nat) : Int) by omega, hqd]
   rfl
  have hql : q < hs.length + 1 := by omega
  obtain ⟨lk, hlk⟩ : ∃ l, hv hs' k = l := ⟨_, rfl⟩
  obtain ⟨lq, hlq⟩ : ∃ l, hv hs' q = l := ⟨_, rfl⟩
  obtain ⟨ck0, ck1⟩ := hrw.cell k hup.hlt
  obtain ⟨cq0, cq1⟩ := hrw.cell q (by rw [hl']; omega)
  rw [hlk] at ck0 ck1
  rw [hlq] at cq0 cq1
  have HQD := hid hqd
  have HLK := hid hlk
  have HLQ := hid hlq
  have hkN : k < hs.length + 1 := hk'
  have HCL := hid (leavesFirst_any lk lq wr.drew)
  have hS0 : wr.drew.cell? ⟨hb, 0, none⟩ = some (.slice (some ⟨g, 0, none⟩) (hs.length + 1) cap) ∧ wr.drew.cell? ⟨hb, 1, none⟩ = some fFirst ∧ wr.drew.cell? ⟨g, k * 2, none⟩ = some (.string lk.1) ∧ wr.drew.cell? ⟨g, k * 2 + 1, none⟩ = some (.int .i64 lk.2) ∧ wr.drew.cell? ⟨g, q * 2, none⟩ = some (.string lq.1) ∧ wr.drew.cell? ⟨g, q * 2 + 1, none⟩ = some (.int .i64 lq.2) := ⟨x0, x1, ck0, ck1, cq0, cq1⟩
  have hec := enters_of Tryz.func105 (by kernel_rfl) rfl
  clear hpm hup hbx hgr hrw hqd hlk hlq hl' ck0 ck1 cq0 cq1 x0 x1 hk'
  go_wp2_with fail
  refine wp_region_held (S := fun w' => w'.cell? ⟨hb, 0, none⟩ = some (.slice (some ⟨g, 0, none⟩) (hs.length + 1) cap) ∧ w'.cell? ⟨hb, 1, none⟩ = some fFirst ∧ w'.cell? ⟨g, k * 2, none⟩ = some (.string lk.1) ∧ w'.cell? ⟨g, k * 2 + 1, none⟩ = some (.int .i64 lk.2) ∧ w'.cell? ⟨g, q * 2, none⟩ = some (.string lq.1) ∧ w'.cell? ⟨g, q * 2 + 1, none⟩ = some (.int .i64 lq.2)) (by kernel_rfl) ?_
  change wpAnyH _ _ _ _ _ _ _ _ (World.drew _)
  refine tkA 0 (.pointer (some ⟨hb, 0, none⟩)) rfl hS0 ?_
  refine tkA 1 (.pointer (some ⟨hb, 0, none⟩)) rfl hS0 ?_
  refine tkA 2 (.pointer (some ⟨hb, 1, none⟩)) rfl hS0 ?_
  refine tkA 3 (fFirst) rfl hS0 ?_
  refine tkA 4 (.pointer (some ⟨hb, 0, none⟩)) rfl hS0 ?_
  refine tkA 5 (.pointer (some ⟨hb, 0, none⟩)) rfl hS0 ?_
  refine tkA 6 (.pointer (some ⟨hb, 0, none⟩)) rfl hS0 ?_
  refine tkA 7 (.slice (some ⟨g, 0, none⟩) (hs.length + 1) cap) rfl hS0 ?_
  refine tkA 8 (.int .i64 (k : Nat)) rfl hS0 ?_
  refine tkA 9 (.pointer (some ⟨g, k * 2, none⟩)) rfl hS0 ?_
  refine tkA 10 (.agg #[.string lk.1, .int .i64 lk.2]) rfl hS0 ?_
  refine tkA 11 (.pointer (some ⟨hb, 0, none⟩)) rfl hS0 ?_
  refine tkA 12 (.pointer (some ⟨hb, 0, none⟩)) rfl hS0 ?_
  refine tkA 13 (.pointer (some ⟨hb, 0, none⟩)) rfl hS0 ?_
  refine tkA 14 (.slice (some ⟨g, 0, none⟩) (hs.length + 1) cap) rfl hS0 ?_
  refine tkA 15 (.int .i64 (q : Nat)) rfl hS0 ?_
  refine tkA 16 (.pointer (some ⟨g, q * 2, none⟩)) rfl hS0 ?_
  refine tkA 17 (.agg #[.string lq.1, .int .i64 lq.2]) rfl hS0 ?_
  refine held_one 18 (by kernel_rfl) (op_calls (f := 105) (args := #[.agg #[.string lk.1, .int .i64 lk.2], .agg #[.string lq.1, .int .i64 lq.2]]) rfl rfl (by go_simp) HCL.out ?_)
  rintro e w6 ⟨rfl, hb6⟩
  have hb6' : Below wr.heap.size wr w6 := ⟨hb6.os, hb6.tape, hb6.output, hb6.size, hb6.block⟩
  have R6 := HRW.out.below hb6'
  have X6 := HBX.out.below hb6'
  obtain ⟨ck0, ck1⟩ := R6.cell k (by rw [HL'.out]; exact hkN)
  obtain ⟨cq0, cq1⟩ := R6.cell q (by rw [HL'.out]; exact hql)
  rw [HLK.out] at ck0 ck1
  rw [HLQ.out] at cq0 cq1
  have x0 : w6.cell? ⟨hb, 0, none⟩ = some (.slice (some ⟨g, 0, none⟩) (hs.length + 1) cap) := X6.cell 0
  have x1 : w6.cell? ⟨hb, 1, none⟩ = some fFirst := X6.cell 1
  have hS1 : w6.cell? ⟨hb, 0, none⟩ = some (.slice (some ⟨g, 0, none⟩) (hs.length + 1) cap) ∧ w6.cell? ⟨hb, 1, none⟩ = some fFirst ∧ w6.cell? ⟨g, k * 2, none⟩ = some (.string lk.1) ∧ w6.cell? ⟨g, k * 2 + 1, none⟩ = some (.int .i64 lk.2) ∧ w6.cell? ⟨g, q * 2, none⟩ = some (.string lq.1) ∧ w6.cell? ⟨g, q * 2 + 1, none⟩ = some (.int .i64 lq.2) := ⟨x0, x1, ck0, ck1, cq0, cq1⟩
  have HR6 := hid R6
  have HX6 := hid X6
  have HG6 := hid (grown_below' (o := some g) hb6')
  clear R6 X6 hb6 hb6' hS0
  refine ⟨_, rfl, hS1, ?_⟩
  cases hf : lfB lk lq with
  | false =>
   have HD := hid (HUP'.out.done lfB lv0 (.inr (by rw [← HQD.out]; show lfB (hv hs' k) (hv hs' q) = false; rw [HLK.out, HLQ.out]; exact hf)))
   refine tkA 19 (.bool true) rfl hS1 ?_
   refine wpAnyH_done (by kernel_rfl) ?_ _
   clear hS1 x0 x1 ck0 ck1 cq0 cq1
   go_simp
   go_wp2
   refine bodyPost_ret (results_none rfl _ _ _) rfl ?_
   exact ⟨rfl, _, hs', HPM'.out, HD.out, HX6.out, HR6.out, HEND.out w6 HG6.out⟩
  | true =>
   have HST : Hid (Up lfB lv0 (swp lv0 hs' k q) q) := hid (by
    have h := HUP'.out.step lfB lv0 lfB_co lfB_as (by omega) (by rw [← HQD.out]; show lfB (hv hs' k) (hv hs' q) = true; rw [HLK.out, HLQ.out]; exact hf)
    rw [← HQD.out] at h
    exact h)
   have HPS : Hid ((swp lv0 hs' k q).Perm ((s, u) :: hs)) := hid ((swp_perm lv0 hs' k q (by rw [HL'.out]; exact hkN) (by rw [HL'.out]; exact hql) (by have := HQD.out; omega)).trans HPM'.out)
   have f0 := HR6.out.fz (k * 2)
   have f1 := HR6.out.fz (k * 2 + 1)
   have f2 := HR6.out.fz (q * 2)
   have f3 := HR6.out.fz (q * 2 + 1)
   have hne : q < k := by have := HQD.out; omega
   refine tkA 19 (.bool false) rfl hS1 ?_
   refine wpAnyH_done (by kernel_rfl) ?_ _
   clear hS1
   go_simp
   go_wp2_with fail
   go_region
   go_wp2
   have G4 : w6.grownBy ((((w6.setCell ⟨g, k * 2, none⟩ (.string lq.1)).setCell ⟨g, k * 2 + 1, none⟩ (.int .i64 lq.2)).setCell ⟨g, q * 2, none⟩ (.string lk.1)).setCell ⟨g, q * 2 + 1, none⟩ (.int .i64 lk.2)) (some g) := grown_same (grown_same (grown_same (grownBy_setCellAt w6 g (k * 2) _) (grownBy_setCellAt _ g (k * 2 + 1) _)) (grownBy_setCellAt _ g (q * 2) _)) (grownBy_setCellAt _ g (q * 2 + 1) _)
   have G5 : w6.grownBy ((((w6.setCell ⟨g, k * 2, none⟩ (.string lq.1)).setCell ⟨g, k * 2 + 1, none⟩ (.int .i64 lq.2)).setCell ⟨g, q * 2, none⟩ (.string lk.1)).setCell ⟨g, q * 2 + 1, none⟩ (.int .i64 lk.2)).drew (some g) := ⟨G4.os, G4.tape, G4.output, G4.size, G4.block⟩
   have L4 := (HR6.out.set k (by rw [HL'.out]; exact hkN) lq.1 lq.2).set q (by rw [List.length_set, HL'.out]; exact hql) lk.1 lk.2
   have e4 : (hs'.set k (lq.1, lq.2)).set q (lk.1, lk.2) = swp lv0 hs' k q := by
    show (hs'.set k lq).set q lk = swp lv0 hs' k q
    rw [← HLK.out, ← HLQ.out]
    rfl
   rw [e4] at L4
   exact ⟨⟨q, swp lv0 hs' k q, rfl, by rw [swp_len]; exact HL'.out, HPS.out, HST.out, HX6.out.kept G5 (fun e => by have e' : hb = g := Option.some.inj e; omega), L4, grown_same (grown_same HGR.out HG6.out) G5⟩, by simp [intOf]; omega⟩
end Go.Proofs.YtkjdabnglcabiaaGreatDoor
