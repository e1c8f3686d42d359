/- The list that the item with a sum is read as: spec.l4List, (*shelf).listUnder. -/
import Derived.Test.YtkjdabnglcabiaaGreatDoorShort
import Derived.Test.YtkjdabnglcabiaaGreatDoorPutMath
import Derived.Test.YtkjdabnglcabiaaGreatDoorReadSpec
import Derived.Test.YtkjdabnglcabiaaGreatDoorReadImpl
import Derived.Test.YtkjdabnglcabiaaGreatDoorShelfStore
import Derived.Test.YtkjdabnglcabiaaGreatDoorOpenStore
import Derived.Test.YtkjdabnglcabiaaGreatDoorMark2
namespace Go.Proofs.YtkjdabnglcabiaaGreatDoor
open Go.RowKit
/-- Both cells of a list's box, stored anew. -/
def set2 (u : World) (b : Nat) (n : Int) (v : Value) : World := (u.setCell ⟨b, 0, none⟩ (.int .i64 n)).setCell ⟨b, 1, none⟩ v
theorem set2_def (u : World) (b : Nat) (n : Int) (v : Value) : (u.setCell ⟨b, 0, none⟩ (.int .i64 n)).setCell ⟨b, 1, none⟩ v = set2 u b n v := rfl
theorem LBox.set2 {u : World} {b : Nat} {n : Int} {v : Value} (h : LBox u b n v) (n' : Int) (v' : Value) : LBox (set2 u b n' v') b n' v' := (h.set0 n').set1 v'
theorem grown_set2 (u : World) (b : Nat) (n : Int) (v : Value) : u.grownBy (set2 u b n v) (some b) := grown_same (grownBy_setCellAt u b 0 (.int .i64 n)) (grownBy_setCellAt _ b 1 v)
/-- What a reader of a list under a sum answers. -/
def ULA (wd : Int) (its : Itms) (s : ByteArray) (w : World) (e : Ending) (w' : World) : Prop := ∃ v n ss ok, e = .returned (.tuple #[.agg #[.int .i64 n, v], .bool ok]) ∧ UL wd its s n ss ok ∧ w'.ownsRow (w.heap.size + 1) 9 1 v ss.length (ss.map Value.string) ∧ Below w.heap.size w w'
set_option maxRecDepth 100000 in
set_option maxHeartbeats 4000000 in
theorem l4List_any (wd room : Int) (vi vp : Value) (its : Itms) (ts : List ByteArray) (s : ByteArray) (w : World) (hi : RdI w vi its) (hp : Reads w vp ts) (hli : its.length ≤ 1048576) (hsi : ∀ i, (itx its i).size ≤ 1048576) :
  Calls Tryz.prog 82 #[.agg #[.int .i64 wd, .int .i64 room, vi, vp], .string s] w (ULA wd its s w) := by
 obtain ⟨ai, ci, rfl, _⟩ := id hi
 obtain ⟨ap, cp, rfl, _⟩ := hp.form
 have hA := ((Below.refl w.heap.size w).alloc (Nat.le_refl _) (.cells #[.int .i64 wd, .int .i64 room, .slice ai its.length ci, .slice ap ts.length cp] 26)).alloc (by simp) (.cells #[.int .i64 0, .slice none 0 0] 54)
 have HAT := hid (l4At_any wd room (.slice ai its.length ci) (.slice ap ts.length cp) its s _ (hi.below hA) ⟨_, _, _, rfl⟩ hli hsi)
 have HRI := hid (hi.below hA)
 have HR0 := hid hi
 have HN1 := hid ((Blk.new w 26 #[.int .i64 wd, .int .i64 room, .slice ai its.length ci, .slice ap ts.length cp]).alloc (.cells #[.int .i64 0, .slice none 0 0] 54))
 have hL0 : LBox ((w.alloc (.cells #[.int .i64 wd, .int .i64 room, .slice ai its.length ci, .slice ap ts.length cp] 26)).alloc (.cells #[.int .i64 0, .slice none 0 0] 54)) (w.heap.size + 1) 0 (.slice none 0 0) := by
  have := World.alloc_heap_new (w.alloc (.cells #[.int .i64 wd, .int .i64 room, .slice ai its.length ci, .slice ap ts.length cp] 26)) (.cells #[.int .i64 0, .slice none 0 0] 54)
  rw [World.size_alloc] at this
  exact this
 have HL0 := hid hL0
 have HA := hid hA
 have HSI := hid hsi
 clear hi hp hA hL0 hsi
 go_enter Tryz.func82, Tryz.ntmps82
 go_wp2_with fail
 refine HAT.out.mono ?_
 rintro e w1 ⟨r, rfl, hr, hb1⟩
 have N1 := HN1.out.below hb1
 have L1 := HL0.out.below hb1
 have B1 := HA.out.trans (hb1.mono (by simp; omega))
 have hs1 := hb1.size
 rw [World.size_alloc, World.size_alloc] at hs1
 rcases hr with ⟨rfl, hnone⟩ | ⟨i, hlt, rfl, hsum⟩
 ·have HU : Hid (UL wd its s 0 [] false) := ⟨⟨#[]⟩, .inr ⟨hnone, rfl⟩, read_none wd⟩
  have x0 := L1.c0
  have f0 := L1.fz 0
  have x1 := (L1.set0 0).c1
  have f1 := (L1.set0 0).fz 1
  have Z := hid (L1.set2 0 (.slice none 0 0))
  have BB := hid (B1.grown (grown_set2 w1 (w.heap.size + 1) 0 (.slice none 0 0)) (by omega) (fun g e => by cases e; omega))
  clear hnone hb1 N1 L1 B1
  go_wp2
  rw [set2_def]
  refine bodyPost_ret (v := .tuple #[.agg #[.int .i64 0, .slice none 0 0], .bool false]) (by simp [results, Tryz.results82, go_sem, Z.out.c0, Z.out.c1]) rfl ⟨_, 0, [], false, rfl, HU.out, World.ownsRow_nil _ _ _ _, BB.out⟩
 ·obtain ⟨ai', ci', e', hc⟩ := id (HRI.out.below hb1)
  cases e'
  obtain ⟨b0, o0, rfl, hbl, hc1, _⟩ := hc i hlt
  have hneb : b0 ≠ w.heap.size + 1 := by
   obtain ⟨a9, c9, e9, h9⟩ := HR0.out
   cases e9
   obtain ⟨b9, o9, e9, h9l, _⟩ := h9 i hlt
   cases e9
   omega
  have HU : Hid (∀ n ss ok, ReadR (itx its i) wd n ss ok → UL wd its s n ss ok) := fun n ss ok h => ⟨_, .inl ⟨i, hlt, hsum, rfl⟩, h⟩
  have hsz := HSI.out i
  generalize itx its i = t at hc1 HU hsz
  have hbd : Below w1.heap.size w1 w1.drew := below_drewN (Below.refl _ _) 1
  have HRD := hid (specReadList_any t wd w1.drew (by unfold maxLen; omega))
  have hS0 : w1.drew.cell? ⟨w.heap.size, 2, none⟩ = some (.slice (some ⟨b0, o0, none⟩) its.length ci) ∧ w1.drew.cell? ⟨w.heap.size, 0, none⟩ = some (.int .i64 wd) ∧ w1.drew.cell? ⟨b0, o0 + i * 2, none⟩ = some (.string t) := ⟨N1.cell 2, N1.cell 0, hc1⟩
  have HN := hid N1
  have HL := hid L1
  have HB := hid B1
  have HC := hid hc1
  have HBL := hid hbl
  clear hsum hc hbl hc1 hb1 N1 L1 B1 hbd hsz
  have hec := enters_of Tryz.func101 (by kernel_rfl) rfl
  go_wp2_with fail
  refine wp_region_held (S := fun w' => w'.cell? ⟨w.heap.size, 2, none⟩ = some (.slice (some ⟨b0, o0, none⟩) its.length ci) ∧ w'.cell? ⟨w.heap.size, 0, none⟩ = some (.int .i64 wd) ∧ w'.cell? ⟨b0, o0 + i * 2, none⟩ = some (.string t)) (by kernel_rfl) ?_
  change wpAnyH _ _ _ _ _ _ _ _ (World.drew _)
  refine tkA 0 (.pointer (some ⟨w.heap.size, 2, none⟩)) rfl hS0 ?_
  refine tkA 1 (.slice (some ⟨b0, o0, none⟩) its.length ci) rfl hS0 ?_
  refine tkA 2 (.int .i64 (i : Nat)) rfl hS0 ?_
  refine tkA 3 (.pointer (some ⟨b0, o0 + i * 2, none⟩)) rfl hS0 ?_
  refine tkA 4 (.pointer (some ⟨b0, o0 + i * 2, none⟩)) rfl hS0 ?_
  refine tkA 5 (.string t) rfl hS0 ?_
  refine tkA 6 (.pointer (some ⟨w.heap.size, 0, none⟩)) rfl hS0 ?_
  refine tkA 7 (.int .i64 wd) rfl hS0 ?_
  refine held_one 8 (by kernel_rfl) (op_calls (f := 101) (args := #[.string t, .int .i64 wd]) rfl rfl (by go_simp) HRD.out ?_)
  rintro e w2 ⟨v2, n, ss, ok, rfl, hread, ho2, hb2⟩
  have hb2' : Below w1.heap.size w1 w2 := ⟨hb2.os, hb2.tape, hb2.output, hb2.size, hb2.block⟩
  have hs2 := hb2'.size
  have N2 := HN.out.below hb2'
  have L2 := HL.out.below hb2'
  have ho2' : w2.ownsRow w1.heap.size 9 1 v2 ss.length (ss.map Value.string) := ho2
  have hS1 : w2.cell? ⟨w.heap.size, 2, none⟩ = some (.slice (some ⟨b0, o0, none⟩) its.length ci) ∧ w2.cell? ⟨w.heap.size, 0, none⟩ = some (.int .i64 wd) ∧ w2.cell? ⟨b0, o0 + i * 2, none⟩ = some (.string t) := ⟨N2.cell 2, N2.cell 0, (hb2'.cell (p := ⟨b0, o0 + i * 2, none⟩) HBL.out).trans HC.out⟩
  have g2 := grown_set2 w2 (w.heap.size + 1) n v2
  have N3 := N2.kept g2 (fun e => by simp at e)
  have hne : b0 ≠ w.heap.size + 1 := hneb
  have CC := (g2.block b0 (Nat.lt_of_lt_of_le HBL.out hs2) (fun e => hne (Option.some.inj e)))
  have CC : (set2 w2 (w.heap.size + 1) n v2).cell? ⟨b0, o0 + i * 2, none⟩ = some (.string t) := by
   have h1 := (hb2'.cell (p := ⟨b0, o0 + i * 2, none⟩) HBL.out).trans HC.out
   unfold World.cell? at h1 ⊢
   rw [CC]
   exact h1
  have hS2 : (set2 w2 (w.heap.size + 1) n v2).cell? ⟨w.heap.size, 2, none⟩ = some (.slice (some ⟨b0, o0, none⟩) its.length ci) ∧ (set2 w2 (w.heap.size + 1) n v2).cell? ⟨w.heap.size, 0, none⟩ = some (.int .i64 wd) ∧ (set2 w2 (w.heap.size + 1) n v2).cell? ⟨b0, o0 + i * 2, none⟩ = some (.string t) := ⟨N3.cell 2, N3.cell 0, CC⟩
  have x0 := L2.c0
  have f0 := L2.fz 0
  have x1 := (L2.set0 n).c1
  have f1 := (L2.set0 n).fz 1
  have Z := hid (L2.set2 n v2)
  have BB := hid ((HB.out.trans (hb2'.mono HB.out.size)).grown g2 (by omega) (fun g e => by cases e; omega))
  have OO := hid (row_kept (ownsRow_base ho2' (show w.heap.size + 1 + 1 ≤ w1.heap.size by omega)) g2 (Nat.lt_succ_self _))
  have HUL := hid (HU.out _ _ _ hread)
  obtain ⟨a2, c2, rfl, _⟩ := row_form ho2'
  refine ⟨_, rfl, hS1, ?_⟩
  refine tkA 9 (.agg #[.int .i64 n, .slice a2 ss.length c2]) rfl hS1 ?_
  refine tkA 10 (.bool ok) rfl hS1 ?_
  refine held_one 11 (by kernel_rfl) (op_skip (w' := set2 w2 (w.heap.size + 1) n (.slice a2 ss.length c2)) rfl rfl (by unfold set2; go_simp) ⟨hS2, ?_⟩)
  refine tkA 12 (.bool ok) rfl hS2 ?_
  refine wpAnyH_done (by kernel_rfl) ?_ _
  clear hS0 hS1 hS2 N2 L2 N3 g2 CC ho2 ho2' hb2 hb2' x0 f0 x1 f1 hread hne
  go_simp
  go_wp2
  refine bodyPost_ret (v := .tuple #[.agg #[.int .i64 n, .slice a2 ss.length c2], .bool ok]) (by simp [results, Tryz.results82, go_sem, Z.out.c0, Z.out.c1]) rfl ⟨_, n, ss, ok, rfl, HUL.out, ownsRow_base OO.out (by omega), BB.out⟩
theorem run_text (t : ByteArray) (u : Int) (W : World) : (Instr.field 59 (.agg #[.string t, .int .i64 u]) 0).run Tryz.prog W = .ok (.string t) W := by kernel_rfl
/-- What is under a sum in the map of a valid store. -/
theorem look_under {wd : Int} {its : Itms} (hN : (sumsL wd its).Pairwise (· < ·)) (s : ByteArray) (hs : s.size ≤ maxLen) (mb : Nat) :
  ∃ t u, Under wd its s t ∧ ∀ W, W.ownsMap Tryz.prog 9 itemElem mb its.length (mapI wd its its.length) → (Instr.lookup 72 (.map (some mb)) (.string s) false).run Tryz.prog W = .ok (.agg #[.string t, .int .i64 u]) W := by
 have look : ∀ (t : ByteArray) (u : Int), (mapI wd its its.length).atKey (.string s.data.toList) (datI (⟨#[]⟩, 0)) = datI (t, u) → ∀ W, W.ownsMap Tryz.prog 9 itemElem mb its.length (mapI wd its its.length) → (Instr.lookup 72 (.map (some mb)) (.string s) false).run Tryz.prog W = .ok (.agg #[.string t, .int .i64 u]) W := fun t u hat W hW => by
  obtain ⟨v, ps, hrun, hv⟩ := hW.lookup keyed9 Tryz.underlying72 (zvItem W) (itemElem_mk ⟨#[]⟩ 0) (key9 s hs)
  have e : (DataW.agg [.lit (.string (⟨#[]⟩ : ByteArray).data.toList), .lit (.int .i64 0)] : DataW Unit) = datI (⟨#[]⟩, 0) := rfl
  rw [e, hat] at hv
  obtain rfl := itemElem_inv hv
  exact hrun
 by_cases h : ∃ i, i < its.length ∧ sumX wd (itx its i) = s
 ·obtain ⟨i, hi, e⟩ := h
  refine ⟨itx its i, itu its i, .inl ⟨i, hi, e, rfl⟩, look _ _ ?_⟩
  rw [← e]
  exact mapI_at wd its hN _ its.length (Nat.le_refl _) i hi
 ·have hno : ∀ i, i < its.length → sumX wd (itx its i) ≠ s := fun i hi e => h ⟨i, hi, e⟩
  refine ⟨⟨#[]⟩, 0, .inr ⟨hno, rfl⟩, look _ _ ?_⟩
  refine Maps.atKey_of_not_has ?_ _
  cases hh : Maps.has (mapI wd its its.length) (.string s.data.toList) with
  | false => rfl
  | true =>
   have := (mapI_has wd its s.data.toList its.length (Nat.le_refl _)).1 hh
   rw [← sumsL_len wd its, List.take_length] at this
   unfold sumsL at this
   obtain ⟨p, hp, e⟩ := List.mem_map.1 this
   obtain ⟨i, hi, rfl⟩ := List.mem_iff_getElem.1 hp
   exact absurd (ByteArray.ext (by simpa [itx, hi] using e)) (hno i hi)
set_option maxRecDepth 100000 in
set_option maxHeartbeats 4000000 in
theorem listUnder_any (sb mb : Nat) (vc : Value) (wd room tot : Int) (its : Itms) (s : ByteArray) (w : World) (hbox : Blk w sb 74 #[.int .i64 wd, .int .i64 room, .int .i64 tot, .map (some mb), vc]) (hmap : w.ownsMap Tryz.prog 9 itemElem mb its.length (mapI wd its its.length)) (hN : (sumsL wd its).Pairwise (· < ·)) (hs : s.size ≤ 1048576) (hsi : ∀ i, (itx its i).size ≤ 1048576) (hE : Errs w) :
  Calls Tryz.prog 61 #[.pointer (some ⟨sb, 0, none⟩), .string s] w (ULA wd its s w) := by
 obtain ⟨t, u, hu, hlk⟩ := look_under hN s (by unfold maxLen; omega) mb
 have hst : t.size ≤ 1048576 := by
  rcases hu with ⟨i, _, _, rfl⟩ | ⟨_, rfl⟩
  ·exact hsi i
  ·show (0 : Nat) ≤ 1048576; omega
 have hA := (Below.refl w.heap.size w).alloc (Nat.le_refl _) (.cells #[.int .i64 0, .slice none 0 0] 54)
 have hL0 : LBox (w.alloc (.cells #[.int .i64 0, .slice none 0 0] 54)) w.heap.size 0 (.slice none 0 0) := World.alloc_heap_new w _
 have hbl := hbox.lt
 have hbd : Below w.heap.size w (w.alloc (.cells #[.int .i64 0, .slice none 0 0] 54)).drew := below_drewN hA 1
 have hS0 : (w.alloc (.cells #[.int .i64 0, .slice none 0 0] 54)).drew.cell? ⟨sb, 3, none⟩ = some (.map (some mb)) ∧ (w.alloc (.cells #[.int .i64 0, .slice none 0 0] 54)).drew.cell? ⟨sb, 0, none⟩ = some (.int .i64 wd) ∧ (Instr.lookup 72 (.map (some mb)) (.string s) false).run Tryz.prog (w.alloc (.cells #[.int .i64 0, .slice none 0 0] 54)).drew = .ok (.agg #[.string t, .int .i64 u]) (w.alloc (.cells #[.int .i64 0, .slice none 0 0] 54)).drew := ⟨(hbox.below hbd).cell 3, (hbox.below hbd).cell 0, hlk _ (hmap.kept (grown_of_below hbd) (by simp))⟩
 have HRD := hid (implReadList_any t wd (w.alloc (.cells #[.int .i64 0, .slice none 0 0] 54)).drew (by omega) (hE.below hbd))
 have HU : Hid (∀ n ss ok, ReadR t wd n ss ok → UL wd its s n ss ok) := fun n ss ok h => ⟨t, hu, h⟩
 have HBX := hid hbox
 have HMP := hid hmap
 have HLK := hid hlk
 have HL0 := hid hL0
 have HA := hid hA
 clear hbox hmap hlk hL0 hA hu hsi hE hbd
 have hec := enters_of Tryz.func84 (by kernel_rfl) rfl
 have hfd := fun W => run_text t u W
 go_enter Tryz.func61, Tryz.ntmps61
 go_wp2_with fail
 refine wp_region_held (S := fun w' => w'.cell? ⟨sb, 3, none⟩ = some (.map (some mb)) ∧ w'.cell? ⟨sb, 0, none⟩ = some (.int .i64 wd) ∧ (Instr.lookup 72 (.map (some mb)) (.string s) false).run Tryz.prog w' = .ok (.agg #[.string t, .int .i64 u]) w') (by kernel_rfl) ?_
 change wpAnyH _ _ _ _ _ _ _ _ (World.drew _)
 refine tkA 0 (.pointer (some ⟨sb, 0, none⟩)) rfl hS0 ?_
 refine tkA 1 (.pointer (some ⟨sb, 0, none⟩)) rfl hS0 ?_
 refine tkA 2 (.pointer (some ⟨sb, 3, none⟩)) rfl hS0 ?_
 refine tkA 3 (.map (some mb)) rfl hS0 ?_
 refine tkA 4 (.string s) rfl hS0 ?_
 refine wpAnyH_take (i := 5) (v := .agg #[.string t, .int .i64 u]) rfl (by kernel_rfl) (by kernel_rfl) (by kernel_rfl) (fun _ _ _ h => h) (.inl ⟨rfl, fun w' hS => by obtain ⟨s1, s2, s3⟩ := hS; first | (go_simp; done) | (simp [execOp, s3, Result.andThen]; done) | (go_simp; simp [s3, Result.andThen])⟩) hS0 ?_
 refine tkA 6 (.string t) rfl hS0 ?_
 refine tkA 7 (.pointer (some ⟨sb, 0, none⟩)) rfl hS0 ?_
 refine tkA 8 (.pointer (some ⟨sb, 0, none⟩)) rfl hS0 ?_
 refine tkA 9 (.pointer (some ⟨sb, 0, none⟩)) rfl hS0 ?_
 refine tkA 10 (.int .i64 wd) rfl hS0 ?_
 refine held_one 11 (by kernel_rfl) (op_calls (f := 84) (args := #[.string t, .int .i64 wd]) rfl rfl (by go_simp) HRD.out ?_)
 rintro e w2 ⟨v2, n, ss, ok, rfl, hread, ho2, hb2⟩
 have hb2' : Below (w.alloc (.cells #[.int .i64 0, .slice none 0 0] 54)).heap.size (w.alloc (.cells #[.int .i64 0, .slice none 0 0] 54)) w2 := ⟨hb2.os, hb2.tape, hb2.output, hb2.size, hb2.block⟩
 have D2 := HA.out.trans (hb2'.mono (by simp))
 have hs2 := hb2'.size
 rw [World.size_alloc] at hs2
 have L2 := HL0.out.below hb2'
 have N2 := HBX.out.below D2
 have ho2' : w2.ownsRow (w.heap.size + 1) 9 1 v2 ss.length (ss.map Value.string) := by
  have : w2.ownsRow (w.alloc (.cells #[.int .i64 0, .slice none 0 0] 54)).heap.size 9 1 v2 ss.length (ss.map Value.string) := ho2
  rwa [World.size_alloc] at this
 have hS1 : w2.cell? ⟨sb, 3, none⟩ = some (.map (some mb)) ∧ w2.cell? ⟨sb, 0, none⟩ = some (.int .i64 wd) ∧ (Instr.lookup 72 (.map (some mb)) (.string s) false).run Tryz.prog w2 = .ok (.agg #[.string t, .int .i64 u]) w2 := ⟨N2.cell 3, N2.cell 0, HLK.out _ (HMP.out.kept (grown_of_below D2) (by simp))⟩
 have g2 := grown_set2 w2 w.heap.size n v2
 have B3 := D2.grown g2 (Nat.le_of_lt (by omega)) (fun g e => by cases e; exact Nat.le_refl _)
 have N3 := HBX.out.below B3
 have hS2 : (set2 w2 w.heap.size n v2).cell? ⟨sb, 3, none⟩ = some (.map (some mb)) ∧ (set2 w2 w.heap.size n v2).cell? ⟨sb, 0, none⟩ = some (.int .i64 wd) ∧ (Instr.lookup 72 (.map (some mb)) (.string s) false).run Tryz.prog (set2 w2 w.heap.size n v2) = .ok (.agg #[.string t, .int .i64 u]) (set2 w2 w.heap.size n v2) := ⟨N3.cell 3, N3.cell 0, HLK.out _ (HMP.out.kept (grown_of_below B3) (by simp))⟩
 have x0 := L2.c0
 have f0 := L2.fz 0
 have x1 := (L2.set0 n).c1
 have f1 := (L2.set0 n).fz 1
 have Z := hid (L2.set2 n v2)
 have BB := hid B3
 have OO := hid (row_kept ho2' g2 (Nat.lt_succ_self _))
 have HUL := hid (HU.out _ _ _ hread)
 obtain ⟨a2, c2, rfl, _⟩ := row_form ho2'
 refine ⟨_, rfl, hS1, ?_⟩
 refine tkA 12 (.agg #[.int .i64 n, .slice a2 ss.length c2]) rfl hS1 ?_
 refine tkA 13 (.bool ok) rfl hS1 ?_
 refine held_one 14 (by kernel_rfl) (op_skip (w' := set2 w2 w.heap.size n (.slice a2 ss.length c2)) rfl rfl (by unfold set2; go_simp) ⟨hS2, ?_⟩)
 refine tkA 15 (.bool ok) rfl hS2 ?_
 refine wpAnyH_done (by kernel_rfl) ?_ _
 clear hS0 hS1 hS2 N2 L2 N3 g2 ho2 ho2' hb2 hb2' D2 B3 x0 f0 x1 f1 hread
 go_simp
 go_wp2
 refine bodyPost_ret (v := .tuple #[.agg #[.int .i64 n, .slice a2 ss.length c2], .bool ok]) (by simp [results, Tryz.results61, go_sem, Z.out.c0, Z.out.c1]) rfl ⟨_, n, ss, ok, rfl, HUL.out, OO.out, BB.out⟩
end Go.Proofs.YtkjdabnglcabiaaGreatDoor
