import Derived.Test.YtkjdabnglcabiaaGreatDoorShort
import Derived.Test.YtkjdabnglcabiaaGreatDoorListUnder
import Derived.Test.YtkjdabnglcabiaaGreatDoorBuildSpec
import Derived.BigQuiet
/- spec.l5Load and spec.Load: a thing put together. -/
namespace Go.Proofs.YtkjdabnglcabiaaGreatDoor
open Go.RowKit
/-- The text of the item with a sum. -/
def Found (wd : Int) (its : Itms) (s t : ByteArray) : Prop := ∃ i, i < its.length ∧ sumX wd (itx its i) = s ∧ t = itx its i
def Absent (wd : Int) (its : Itms) (s : ByteArray) : Prop := ∀ i, i < its.length → sumX wd (itx its i) ≠ s
/-- What Load answers of a valid store. -/
inductive LoadR (wd : Int) (its : Itms) (name : ByteArray) : Value → Prop where
 | none (n : Int) (ss : List ByteArray) (h : UL wd its name n ss false) : LoadR wd its name (.tuple #[.string ⟨#[]⟩, .bool false])
 | lacks (n : Int) (ss : List ByteArray) (h : UL wd its name n ss true) (i : Nat) (hi : i < ss.length) (ha : Absent wd its (tv ss i)) : LoadR wd its name (.tuple #[.string ⟨#[]⟩, .bool false])
 | build (n : Int) (ss ps : List ByteArray) (h : UL wd its name n ss true) (hl : ps.length = ss.length) (hf : ∀ i, i < ss.length → Found wd its (tv ss i) (tv ps i)) : LoadR wd its name (buildR n ss ps wd)
theorem Found.uniq {wd : Int} {its : Itms} {s t t' : ByteArray} (hN : (sumsL wd its).Pairwise (· < ·)) (h : Found wd its s t) (k : Found wd its s t') : t = t' := Under.uniq hN (.inl h) (.inl k)
theorem Found.not {wd : Int} {its : Itms} {s t : ByteArray} (h : Found wd its s t) (k : Absent wd its s) : False := by
 obtain ⟨i, hi, e, _⟩ := h
 exact k i hi e
theorem LoadR.uniq {wd : Int} {its : Itms} {name : ByteArray} {r r' : Value} (hN : (sumsL wd its).Pairwise (· < ·)) (h : LoadR wd its name r) (k : LoadR wd its name r') : r = r' := by
 cases h with
 | none n ss h =>
  cases k with
  | none n' ss' h' => rfl
  | lacks n' ss' h' i hi ha => rfl
  | build n' ss' ps h' hl hf => obtain ⟨_, _, e⟩ := h.uniq hN h'; cases e
 | lacks n ss h i hi ha =>
  cases k with
  | none n' ss' h' => rfl
  | lacks n' ss' h' j hj hb => rfl
  | build n' ss' ps h' hl hf =>
   obtain ⟨_, rfl, _⟩ := h.uniq hN h'
   exact ((hf i hi).not ha).elim
 | build n ss ps h hl hf =>
  cases k with
  | none n' ss' h' => obtain ⟨_, _, e⟩ := h.uniq hN h'; cases e
  | lacks n' ss' h' j hj hb =>
   obtain ⟨_, rfl, _⟩ := h.uniq hN h'
   exact ((hf j hj).not hb).elim
  | build n' ss' ps' h' hl' hf' =>
   obtain ⟨rfl, rfl, _⟩ := h.uniq hN h'
   have e : ps = ps' := List.ext_getElem (by rw [hl, hl']) (fun i h1 h2 => by
    have := (hf i (by omega)).uniq hN (hf' i (by omega))
    simpa [tv, h1, h2] using this)
   rw [e]
theorem build_form (n : Int) (ss ps : List ByteArray) (m : Int) : ∃ x b, buildR n ss ps m = .tuple #[.string x, .bool b] := by
 unfold buildR
 split
 ·exact ⟨_, _, rfl⟩
 ·exact ⟨_, _, rfl⟩
/-- What Load answers. -/
def LoadV (wd room : Int) (its : Itms) (ts : List ByteArray) (name : ByteArray) (r : Value) : Prop := (¬ ValidSt wd room its ts ∧ r = .tuple #[.string ⟨#[]⟩, .bool false]) ∨ (ValidSt wd room its ts ∧ LoadR wd its name r)
theorem LoadV.uniq {wd room : Int} {its : Itms} {ts : List ByteArray} {name : ByteArray} {r r' : Value} (h : LoadV wd room its ts name r) (k : LoadV wd room its ts name r') : r = r' := by
 rcases h with ⟨hn, rfl⟩ | ⟨hv, h⟩ <;> rcases k with ⟨kn, rfl⟩ | ⟨kv, k⟩
 ·rfl
 ·exact absurd kv hn
 ·exact absurd hv kn
 ·exact h.uniq (sums_asc hv.each) k
end Go.Proofs.YtkjdabnglcabiaaGreatDoor
/- The parts of a thing: (*shelf).pieceUnder, onePiece.built, asThing. -/
namespace Go.Proofs.YtkjdabnglcabiaaGreatDoor
open Go.RowKit
/-- A piece as a store has it. -/
def Piece (wd : Int) (its : Itms) (s t : ByteArray) (there : Bool) : Prop := (there = true ∧ Found wd its s t) ∨ (there = false ∧ Absent wd its s ∧ t = ⟨#[]⟩)
theorem piece_at {wd : Int} {its : Itms} (hN : (sumsL wd its).Pairwise (· < ·)) (s : ByteArray) : ∃ t u there, Piece wd its s t there ∧ (mapI wd its its.length).atKey (.string s.data.toList) (datI (⟨#[]⟩, 0)) = datI (t, u) ∧ Maps.has (mapI wd its its.length) (.string s.data.toList) = there := by
 by_cases h : ∃ i, i < its.length ∧ sumX wd (itx its i) = s
 ·obtain ⟨i, hi, e⟩ := h
  refine ⟨itx its i, itu its i, true, .inl ⟨rfl, i, hi, e, rfl⟩, ?_, ?_⟩
  ·rw [← e]
   exact mapI_at wd its hN _ its.length (Nat.le_refl _) i hi
  ·rw [mapI_has wd its s.data.toList its.length (Nat.le_refl _), ← sumsL_len wd its, List.take_length, ← e]
   exact List.mem_of_getElem? (sumsL_get wd its i hi)
 ·have hno : Absent wd its s := fun i hi e => h ⟨i, hi, e⟩
  have hf : Maps.has (mapI wd its its.length) (.string s.data.toList) = false := by
   cases hh : Maps.has (mapI wd its its.length) (.string s.data.toList) with
   | false => rfl
   | true =>
    have := (mapI_has wd its s.data.toList its.length (Nat.le_refl _)).1 hh
    rw [← sumsL_len wd its, List.take_length] at this
    unfold sumsL at this
    obtain ⟨p, hp, e⟩ := List.mem_map.1 this
    obtain ⟨i, hi, rfl⟩ := List.mem_iff_getElem.1 hp
    exact absurd (ByteArray.ext (by simpa [itx, hi] using e)) (hno i hi)
  exact ⟨⟨#[]⟩, 0, false, .inr ⟨rfl, hno, rfl⟩, Maps.atKey_of_not_has hf _, hf⟩
set_option maxRecDepth 100000 in
set_option maxHeartbeats 2000000 in
theorem pieceUnder_any (sb mb : Nat) (vc : Value) (wd room tot : Int) (its : Itms) (s : ByteArray) (w : World) (hbox : Blk w sb 74 #[.int .i64 wd, .int .i64 room, .int .i64 tot, .map (some mb), vc]) (hmap : w.ownsMap Tryz.prog 9 itemElem mb its.length (mapI wd its its.length)) (hN : (sumsL wd its).Pairwise (· < ·)) (hs : s.size ≤ 1048576) :
  Calls Tryz.prog 62 #[.pointer (some ⟨sb, 0, none⟩), .string s] w fun e w' => ∃ t there, e = .returned (.agg #[.string s, .string t, .bool there]) ∧ Piece wd its s t there ∧ Below w.heap.size w w' := by
 obtain ⟨t, u, there, hP, hat, hhas⟩ := piece_at hN s
 have HP := hid hP
 have b3 : ∀ o, (w.alloc o).cell? ⟨sb, 3, none⟩ = some (.map (some mb)) := fun o => (hbox.alloc o).cell 3
 have hmap1 := hmap.alloc (.cells #[.string ⟨#[]⟩, .string ⟨#[]⟩, .bool false] 95)
 clear hP hbox hmap
 go_enter Tryz.func62, Tryz.ntmps62
 go_wp2_with (at_lookup; refine wpList_look_item _ rfl _ _ rfl mb its.length (mapI wd its its.length) (by go_simp) hmap1 s (by unfold maxLen; omega) (by go_simp) t u hat there hhas ?_)
 refine bodyPost_ret (v := .agg #[.string s, .string t, .bool there]) (by simp [results, Tryz.results62, go_sem]) rfl ⟨t, there, rfl, HP.out, ?_⟩
 exact ((Below.refl _ _).alloc (Nat.le_refl _) _).alloc (by simp) _
@[go_sem] theorem mkOne (x : Value) (W : World) : (Instr.makeInterface 95 x).run Tryz.prog W = .ok (.iface 95 x) W := run_makeInterface W 95 x (by kernel_rfl)
@[go_sem] theorem mkWhole (x : Value) (W : World) : (Instr.makeInterface 101 x).run Tryz.prog W = .ok (.iface 101 x) W := run_makeInterface W 101 x (by kernel_rfl)
@[go_sem] theorem assert_one (x : Value) (W : World) : (Instr.typeAssert (.iface 95 x) 61 95 true).run Tryz.prog W = .ok (.tuple #[x, .bool true]) W := by kernel_rfl
@[go_sem] theorem assert_whole (x : Value) (W : World) : (Instr.typeAssert (.iface 101 x) 61 95 true).run Tryz.prog W = .ok (.tuple #[.agg #[.string ⟨#[]⟩, .string ⟨#[]⟩, .bool false], .bool false]) W := by kernel_rfl
set_option maxRecDepth 100000 in
set_option maxHeartbeats 1000000 in
theorem asThing_one (s t : ByteArray) (there : Bool) (w : World) :
  Calls Tryz.prog 31 #[.iface 95 (.agg #[.string s, .string t, .bool there])] w fun e w' => e = .returned (.iface 95 (.agg #[.string s, .string ⟨#[]⟩, .bool false])) ∧ Below w.heap.size w w' := by
 have HA := hid ((Below.refl w.heap.size w).alloc (Nat.le_refl _) (.cells #[.string s, .string t, .bool there] 95))
 go_enter Tryz.func31, Tryz.ntmps31
 go_wp2
 go_ret
 exact ⟨rfl, HA.out⟩
set_option maxRecDepth 100000 in
set_option maxHeartbeats 1000000 in
theorem asThing_whole (x : Value) (w : World) :
  Calls Tryz.prog 31 #[.iface 101 x] w fun e w' => e = .returned (.iface 101 x) ∧ Below w.heap.size w w' := by
 go_enter Tryz.func31, Tryz.ntmps31
 go_wp2
 go_ret
 exact ⟨rfl, Below.refl _ _⟩
end Go.Proofs.YtkjdabnglcabiaaGreatDoor
/- (*shelf).under: the part with a sum. -/
namespace Go.Proofs.YtkjdabnglcabiaaGreatDoor
open Go.RowKit
/-- A part in its cell. -/
abbrev partV (s t : ByteArray) (b : Bool) : Value := .iface 95 (.agg #[.string s, .string t, .bool b])
theorem Tryz.partInfo : (Tryz.prog.info? 61).map (fun i => (i.zero, i.size, i.bytes)) = some (some .nilIface, 1, 16) := by kernel_rfl
theorem wp_append_part {o : Oper} {a : Act} {w : World} {K : Act → World → Prop} {Q : Exit → Act → World → Prop} (s x : Operand)
  (ho : o.op = .call { callee := .builtin .append, args := #[s, x], argTypes := #[99, 99] }) (B : Nat) (v : Value) (n : Nat) (xs : List Value) (hs : a.eval s = v) (hown : w.ownsRow B 61 1 v n xs)
  (ad : Addr) (k c : Nat) (ys : List Value) (hx : a.eval x = .slice (some ad) k c) (hl : ys.length = k) (hc : ∀ j u, ys[j]? = some u → w.cell? (ad.add j) = some u) (h1 : ∀ u ∈ ys, u.oneCell' = true) (hlen : n + k ≤ 2097152) (hB : B ≤ w.heap.size)
  (h : ∀ v' w', w'.ownsRow B 61 1 v' (n + k) (xs ++ ys) → Below B w w' → w.grownBy w' v.ownBlock → K (a.put o.dst v') w') : o.wp Tryz.prog a w K Q := by
 obtain ⟨i0, hi, hz0, hz1, hz2⟩ := info_parts Tryz.partInfo
 refine wp_append_own w s x 99 ho B 61 i0 .nilIface 1 16 Tryz.underlying99 hi hz0 hz1 hz2 rfl (by decide) v n xs hs hown ad k c ys hx (by omega) hc h1 (by unfold maxLen; omega) (by omega) hB ?_
 intro v' w' ho' hg' _
 exact h v' w' ho' ((Below.refl B w).grown hg' hB (fun g e => (hown.lt g e).1)) hg'
theorem parts_form {w : World} {base n : Nat} {v : Value} {xs : List Value} (h : w.ownsRow base 61 1 v n xs) : ∃ a cap, v = .slice a n cap := by
 rcases h with ⟨_, ⟨rfl, rfl⟩ | ⟨g, cap, cur, rfl, hb, _⟩⟩
 ·exact ⟨none, 0, rfl⟩
 ·exact ⟨_, cap, rfl⟩
theorem part_below {W W' : World} {base : Nat} {e : TypeId} {v : Value} {n : Nat} {xs : List Value} (h : W.ownsRow base e 1 v n xs) (hb : Below W.heap.size W W') : W'.ownsRow base e 1 v n xs :=
 h.kept (grown_of_below hb) (by cases hv : v.ownBlock <;> simp)
/-- The parts of a list. -/
def PartsOf (wd : Int) (its : Itms) (ss : List ByteArray) (k : Nat) (vs : List Value) : Prop := vs.length = k ∧ ∀ j, j < k → ∃ t b, vs[j]? = some (partV (tv ss j) t b) ∧ Piece wd its (tv ss j) t b
theorem PartsOf.add {wd : Int} {its : Itms} {ss : List ByteArray} {k : Nat} {vs : List Value} (h : PartsOf wd its ss k vs) (t : ByteArray) (b : Bool) (hp : Piece wd its (tv ss k) t b) : PartsOf wd its ss (k + 1) (vs ++ [partV (tv ss k) t b]) := by
 obtain ⟨hl, hv⟩ := h
 refine ⟨by simp [hl], fun j hj => ?_⟩
 by_cases e : j = k
 ·subst e
  exact ⟨t, b, by rw [List.getElem?_append_right (by omega), hl]; simp, hp⟩
 ·obtain ⟨t', b', h1, h2⟩ := hv j (by omega)
  exact ⟨t', b', by rw [List.getElem?_append_left (by omega)]; exact h1, h2⟩
/-- What under answers. -/
def UnderR (wd : Int) (its : Itms) (name : ByteArray) (w : World) (e : Ending) (w' : World) : Prop :=
 (∃ n ss t b, e = .returned (partV name t b) ∧ UL wd its name n ss false ∧ Piece wd its name t b ∧ Below w.heap.size w w') ∨
 (∃ n ss vs vl vp B, e = .returned (.iface 101 (.agg #[.int .i64 n, vl, .int .i64 wd, vp])) ∧ UL wd its name n ss true ∧ Reads w' vl ss ∧ w'.ownsRow B 61 1 vp ss.length vs ∧ PartsOf wd its ss ss.length vs ∧ Below w.heap.size w w')
set_option maxRecDepth 100000 in
set_option maxHeartbeats 8000000 in
theorem under_any (sb mb : Nat) (vc : Value) (wd room tot : Int) (its : Itms) (name : ByteArray) (w : World) (hbox : Blk w sb 74 #[.int .i64 wd, .int .i64 room, .int .i64 tot, .map (some mb), vc]) (hmap : w.ownsMap Tryz.prog 9 itemElem mb its.length (mapI wd its its.length)) (hN : (sumsL wd its).Pairwise (· < ·)) (hs : name.size ≤ 1048576) (hsi : ∀ i, (itx its i).size ≤ 1048576) (hE : Errs w) :
  Calls Tryz.prog 32 #[.pointer (some ⟨sb, 0, none⟩), .string name] w (UnderR wd its name w) := by
 have HLU := hid (listUnder_any sb mb vc wd room tot its name w hbox hmap hN hs hsi hE)
 have HPU := hid fun (W : World) (h1 : Blk W sb 74 #[.int .i64 wd, .int .i64 room, .int .i64 tot, .map (some mb), vc]) (h2 : W.ownsMap Tryz.prog 9 itemElem mb its.length (mapI wd its its.length)) (p : ByteArray) (hp : p.size ≤ 1048576) => pieceUnder_any sb mb vc wd room tot its p W h1 h2 hN hp
 have HBX := hid hbox
 have HMP := hid hmap
 have hsl := hbox.lt
 have HNS := hid hs
 clear hbox hmap hN hs hsi hE
 go_enter Tryz.func32, Tryz.ntmps32
 go_wp2_with fail
 refine HLU.out.mono ?_
 rintro e w1 ⟨v1, n, ss, ok, rfl, hul, ho1, hb1⟩
 obtain ⟨a1, c1, rfl, _⟩ := row_form ho1
 have hA1 := (Below.refl w1.heap.size w1).alloc (Nat.le_refl _) (.cells #[.int .i64 n, .slice a1 ss.length c1] 54)
 have B2 := hb1.trans (hA1.mono hb1.size)
 have HUL := hid hul
 cases ok with
 | false =>
  have HP := hid (HPU.out _ (HBX.out.below B2) (HMP.out.kept (grown_of_below B2) (by simp)) name HNS.out)
  have HB2 := hid B2
  clear hul ho1 hb1 hA1 B2
  go_wp2_with fail
  refine HP.out.mono ?_
  rintro e w2 ⟨t, b, rfl, hp, hb2⟩
  have HB3 := hid (HB2.out.trans (hb2.mono HB2.out.size))
  have HPP := hid hp
  clear hb2 hp
  go_wp2
  go_ret
  exact .inl ⟨n, ss, t, b, rfl, HUL.out, HPP.out, HB3.out⟩
 | true =>
 obtain ⟨hfew, _, hssz⟩ := hul.few
 have HSS : Hid (∀ i, i < ss.length → (tv ss i).size ≤ 1048576) := fun i hi => by
  have hm : tv ss i ∈ ss := by unfold tv; rw [List.getD_eq_getElem?_getD, List.getElem?_eq_getElem hi]; exact List.getElem_mem hi
  obtain ⟨e, hw⟩ := hssz _ hm
  have : 1 ≤ wd ∧ wd ≤ 8 := of_decide_eq_true hw
  omega
 have HROW : Hid (w1.ownsRow (w.heap.size + 1) 9 1 (.slice a1 ss.length c1) ss.length (ss.map Value.string)) := ho1
 have L1 : LBox (w1.alloc (.cells #[.int .i64 n, .slice a1 ss.length c1] 54)) w1.heap.size n (.slice a1 ss.length c1) := World.alloc_heap_new w1 _
 have hws := hb1.size
 have X1 := HBX.out.below B2
 have hS0 : (w1.alloc (.cells #[.int .i64 n, .slice a1 ss.length c1] 54)).drew.cell? ⟨w1.heap.size, 0, none⟩ = some (.int .i64 n) ∧ (w1.alloc (.cells #[.int .i64 n, .slice a1 ss.length c1] 54)).drew.cell? ⟨w1.heap.size, 1, none⟩ = some (.slice a1 ss.length c1) ∧ (w1.alloc (.cells #[.int .i64 n, .slice a1 ss.length c1] 54)).drew.cell? ⟨sb, 0, none⟩ = some (.int .i64 wd) := ⟨L1.c0, L1.c1, X1.cell 0⟩
 have L2 := fun (o : Obj) => L1.below ((Below.refl _ (w1.alloc (.cells #[.int .i64 n, .slice a1 ss.length c1] 54))).alloc (Nat.le_refl _) o)
 have X2 := fun (o : Obj) => X1.alloc o
 have hS1 : ∀ o, ((w1.alloc (.cells #[.int .i64 n, .slice a1 ss.length c1] 54)).alloc o).drew.cell? ⟨w1.heap.size, 0, none⟩ = some (.int .i64 n) ∧ ((w1.alloc (.cells #[.int .i64 n, .slice a1 ss.length c1] 54)).alloc o).drew.cell? ⟨w1.heap.size, 1, none⟩ = some (.slice a1 ss.length c1) ∧ ((w1.alloc (.cells #[.int .i64 n, .slice a1 ss.length c1] 54)).alloc o).drew.cell? ⟨sb, 0, none⟩ = some (.int .i64 wd) := fun o => ⟨(L2 o).c0, (L2 o).c1, (X2 o).cell 0⟩
 have HB1 := hid hb1
 clear hul ho1 hb1 hA1 B2 hssz L1 L2 X1 X2
 go_wp2_with fail
 refine wp_region_held (S := fun w' => w'.cell? ⟨w1.heap.size, 0, none⟩ = some (.int .i64 n) ∧ w'.cell? ⟨w1.heap.size, 1, none⟩ = some (.slice a1 ss.length c1) ∧ w'.cell? ⟨sb, 0, none⟩ = some (.int .i64 wd)) (by kernel_rfl) ?_
 change wpAnyH _ _ _ _ _ _ _ _ (World.drew _)
 refine tkA 0 (.agg #[.int .i64 n, .slice a1 ss.length c1]) rfl hS0 ?_
 refine tkA 1 (.pointer (some ⟨sb, 0, none⟩)) rfl hS0 ?_
 refine tkA 2 (.pointer (some ⟨sb, 0, none⟩)) rfl hS0 ?_
 refine tkA 3 (.pointer (some ⟨sb, 0, none⟩)) rfl hS0 ?_
 refine tkA 4 (.int .i64 wd) rfl hS0 ?_
 refine tkA 5 (.agg #[.int .i64 n, .slice a1 ss.length c1, .int .i64 wd, .slice none 0 0]) rfl hS0 ?_
 refine held_one 6 (by kernel_rfl) (op_value (v := .pointer (some ⟨w1.heap.size + 1, 0, none⟩)) (w' := ((w1.alloc (.cells #[.int .i64 n, .slice a1 ss.length c1] 54)).alloc (.cells #[.int .i64 0, .slice none 0 0, .int .i64 0, .slice none 0 0] 101)).drew) rfl rfl (by go_simp) ⟨hS1 _, ?_⟩)
 refine held_one 7 (by kernel_rfl) (op_skip (w' := ((w1.alloc (.cells #[.int .i64 n, .slice a1 ss.length c1] 54)).alloc (.cells #[.int .i64 n, .slice a1 ss.length c1, .int .i64 wd, .slice none 0 0] 101)).drew) rfl rfl (by go_simp) ⟨hS1 _, wpAnyH_done (by kernel_rfl) ?_ _⟩)
 have K1 := ((Below.refl w1.heap.size w1).alloc (Nat.le_refl _) (.cells #[.int .i64 n, .slice a1 ss.length c1] 54))
 have K2 : Below w1.heap.size w1 ((w1.alloc (.cells #[.int .i64 n, .slice a1 ss.length c1] 54)).alloc (.cells #[.int .i64 n, .slice a1 ss.length c1, .int .i64 wd, .slice none 0 0] 101)).drew := below_drewN (K1.alloc K1.size _) 1
 have N2 : Blk ((w1.alloc (.cells #[.int .i64 n, .slice a1 ss.length c1] 54)).alloc (.cells #[.int .i64 n, .slice a1 ss.length c1, .int .i64 wd, .slice none 0 0] 101)).drew (w1.heap.size + 1) 101 #[.int .i64 n, .slice a1 ss.length c1, .int .i64 wd, .slice none 0 0] := by
  have := Blk.new (w1.alloc (.cells #[.int .i64 n, .slice a1 ss.length c1] 54)) 101 #[.int .i64 n, .slice a1 ss.length c1, .int .i64 wd, .slice none 0 0]
  rw [World.size_alloc] at this
  exact this
 have L3 : LBox ((w1.alloc (.cells #[.int .i64 n, .slice a1 ss.length c1] 54)).alloc (.cells #[.int .i64 n, .slice a1 ss.length c1, .int .i64 wd, .slice none 0 0] 101)).drew w1.heap.size n (.slice a1 ss.length c1) := by
  have L1 : LBox (w1.alloc (.cells #[.int .i64 n, .slice a1 ss.length c1] 54)) w1.heap.size n (.slice a1 ss.length c1) := World.alloc_heap_new w1 _
  exact L1.below (below_drewN ((Below.refl _ (w1.alloc (.cells #[.int .i64 n, .slice a1 ss.length c1] 54))).alloc (Nat.le_refl _) _) 1)
 have hz : ((w1.alloc (.cells #[.int .i64 n, .slice a1 ss.length c1] 54)).alloc (.cells #[.int .i64 n, .slice a1 ss.length c1, .int .i64 wd, .slice none 0 0] 101)).drew.heap.size = w1.heap.size + 2 := by
  show ((w1.alloc (.cells #[.int .i64 n, .slice a1 ss.length c1] 54)).alloc (.cells #[.int .i64 n, .slice a1 ss.length c1, .int .i64 wd, .slice none 0 0] 101)).heap.size = _
  rw [World.size_alloc, World.size_alloc]
 obtain ⟨w3, hw3⟩ : ∃ w3, w3 = ((w1.alloc (.cells #[.int .i64 n, .slice a1 ss.length c1] 54)).alloc (.cells #[.int .i64 n, .slice a1 ss.length c1, .int .i64 wd, .slice none 0 0] 101)).drew := ⟨_, rfl⟩
 rw [← hw3] at K2 N2 L3 hz
 have l1 := L3.c1
 have HK2 := hid K2
 have HN2 := hid N2
 have HZ : Hid (w3.heap.size = w1.heap.size + 2) := hz
 clear hS0 hS1 K1 K2 N2 L3 hz
 go_simp
 simp only [← hw3]
 clear hw3
 go_wp2_with fail
 clear l1
 go_loopw [31] (fun i' wr => ∃ (k : Nat) (vs : List Value) (vp : Value), k ≤ ss.length ∧ i' = .int .i64 k ∧ PartsOf wd its ss k vs ∧ wr.ownsRow (w1.heap.size + 2) 61 1 vp k vs ∧ Blk wr (w1.heap.size + 1) 101 #[.int .i64 n, .slice a1 ss.length c1, .int .i64 wd, vp] ∧ Below w1.heap.size w1 wr ∧ w1.heap.size + 2 ≤ wr.heap.size) (fun i' _ => ss.length - (intOf i').toNat)
 case atStart => exact ⟨0, [], .slice none 0 0, Nat.zero_le _, rfl, ⟨rfl, fun j hj => absurd hj (by omega)⟩, ⟨rfl, .inl ⟨rfl, rfl⟩⟩, HN2.out, HK2.out, Nat.le_of_eq HZ.out.symm⟩
 case round =>
  obtain ⟨k, vs, vp, hk, rfl, hpo, hrow, hblk, hbel, hsz⟩ := hrel
  obtain ⟨ap, cp, rfl⟩ := parts_form hrow
  have HPO := hid hpo
  by_cases hlt : k < ss.length
  case neg =>
   obtain rfl : k = ss.length := by omega
   have r0 : wr.cell? ⟨w1.heap.size + 1, 0, none⟩ = some (.int .i64 n) := hblk.cell 0
   have r1 : wr.cell? ⟨w1.heap.size + 1, 1, none⟩ = some (.slice a1 ss.length c1) := hblk.cell 1
   have r2 : wr.cell? ⟨w1.heap.size + 1, 2, none⟩ = some (.int .i64 wd) := hblk.cell 2
   have r3 : wr.cell? ⟨w1.heap.size + 1, 3, none⟩ = some (.slice ap ss.length cp) := hblk.cell 3
   have HR := hid hrow
   have HRD := hid ((Reads.of_row HROW.out).below hbel)
   have HB := hid (HB1.out.trans (hbel.mono hws))
   clear hpo hrow hblk hbel hsz
   go_wp2
   go_ret
   exact .inr ⟨n, ss, vs, _, _, _, rfl, HUL.out, HRD.out, HR.out, HPO.out, HB.out⟩
  obtain ⟨ac', cc', e', hcp⟩ := ((Reads.of_row HROW.out).below hbel).form
  cases e'
  obtain ⟨b0, o0, rfl, hpb, hpc⟩ := hcp k hlt
  have hpt : wr.cell? ⟨b0, o0 + k, none⟩ = some (.string (tv ss k)) := hpc
  have hps := HSS.out k hlt
  have HADD := hid fun t b hp => hpo.add t b hp
  have D0 : Below wr.heap.size wr wr.drew := below_drewN (Below.refl _ _) 1
  have Bw := HB1.out.trans (hbel.mono hws)
  have Bd := Bw.trans (D0.mono Bw.size)
  have HCALL := hid (HPU.out wr.drew (HBX.out.below Bd) (HMP.out.kept (grown_of_below Bd) (by simp)) (tv ss k) hps)
  have HBL := hid hbel
  have HRW := hid hrow
  have HBK := hid hblk
  generalize tv ss k = x at hpt hps HADD HCALL
  have hc3 : wr.drew.cell? ⟨w1.heap.size + 1, 3, none⟩ = some (.slice ap k cp) := hblk.cell 3
  have hec := enters_of Tryz.func62 (by kernel_rfl) rfl
  clear hcp hpc hpb hpo hrow hblk hbel Bw Bd
  go_wp2_with fail
  clear hpt
  refine wp_region_held (S := fun _ => True) (by kernel_rfl) ?_
  change wpAnyH _ _ _ _ _ _ _ _ (World.drew _)
  refine tkA 0 (.pointer (some ⟨w1.heap.size + 1, 3, none⟩)) rfl trivial ?_
  refine tkA 2 (.pointer (some ⟨sb, 0, none⟩)) rfl trivial ?_
  refine tkA 3 (.string x) rfl trivial ?_
  refine held_two 1 4 (by kernel_rfl) ?A ?B
  case A =>
   refine op_value (v := .slice ap k cp) (w' := wr.drew) rfl rfl (by go_simp) ⟨trivial, ?_⟩
   refine held_one 4 (by kernel_rfl) (op_calls (f := 62) (args := #[.pointer (some ⟨sb, 0, none⟩), .string x]) rfl rfl (by go_simp) HCALL.out ?_)
   rintro e w5 ⟨t, b, rfl, hp5, hb5⟩
   have hb5' : Below wr.heap.size wr w5 := ⟨hb5.os, hb5.tape, hb5.output, hb5.size, hb5.block⟩
   have hs5 := hb5'.size
   have HPA := hid (HADD.out t b hp5)
   have R5 := (part_below HRW.out hb5').alloc (.cells #[.iface 95 (.agg #[.string x, .string t, .bool b])] 61)
   have K5 := (HBK.out.below hb5').alloc (.cells #[.iface 95 (.agg #[.string x, .string t, .bool b])] 61)
   have c5 : w5.cell? ⟨w1.heap.size + 1, 3, none⟩ = some (.slice ap k cp) := (HBK.out.below hb5').cell 3
   have c6 : (w5.alloc (.cells #[.iface 95 (.agg #[.string x, .string t, .bool b])] 61)).cell? ⟨w1.heap.size + 1, 3, none⟩ = some (.slice ap k cp) := K5.cell 3
   have B5 := (HBL.out.trans (hb5'.mono HBL.out.size)).alloc (by omega) (.cells #[.iface 95 (.agg #[.string x, .string t, .bool b])] 61)
   have s6 : (w5.alloc (.cells #[.iface 95 (.agg #[.string x, .string t, .bool b])] 61)).heap.size = w5.heap.size + 1 := World.size_alloc _ _
   have NEW := fun j u (h : [.iface 95 (.agg #[.string x, .string t, .bool b])][j]? = some u) => cell_one_new w5 (.iface 95 (.agg #[.string x, .string t, .bool b])) 61 j u h
   refine ⟨_, rfl, trivial, ?_⟩
   refine tkA 5 (.iface 95 (.agg #[.string x, .string t, .bool b])) rfl trivial ?_
   refine held_one 6 (by kernel_rfl) (op_value (v := .slice (some ⟨w5.heap.size, 0, none⟩) 1 1) (w' := w5.alloc (.cells #[.iface 95 (.agg #[.string x, .string t, .bool b])] 61)) rfl rfl (by go_simp) ⟨trivial, ?_⟩)
   refine held_one 7 (by kernel_rfl) (op_wp rfl rfl (wp_append_part (.tmp 36) (.tmp 41) rfl (w1.heap.size + 2) (.slice ap k cp) k vs (by go_simp) R5 ⟨w5.heap.size, 0, none⟩ 1 1 [.iface 95 (.agg #[.string x, .string t, .bool b])] (by go_simp) rfl NEW (by simp [Value.oneCell']) (by omega) (by omega) ?_))
   intro v7 w7 o7 b7 g7
   refine ⟨trivial, ?_⟩
   have K7 := K5.kept g7 (fun e => by have := (R5.lt _ e.symm).1; omega)
   have B7 := B5.grown g7 (by omega) (fun g e => by have := (R5.lt g e).1; omega)
   have hs7 := g7.size
   obtain ⟨a7, c7, rfl⟩ := parts_form o7
   have x7 : w7.cell? ⟨w1.heap.size + 1, 3, none⟩ = some (.slice ap k cp) := K7.cell 3
   have f7 := K7.fz 3
   have g8 := grownBy_setCellAt w7 (w1.heap.size + 1) 3 (.slice a7 (k + 1) c7)
   have K8 : Hid (Blk (w7.setCell ⟨w1.heap.size + 1, 3, none⟩ (.slice a7 (k + 1) c7)) (w1.heap.size + 1) 101 #[.int .i64 n, .slice (some ⟨b0, o0, none⟩) ss.length c1, .int .i64 wd, .slice a7 (k + 1) c7]) := K7.set 3 (.slice a7 (k + 1) c7)
   have O8 := hid (row_kept o7 g8 (by omega))
   have B8 := hid (B7.grown g8 (by omega) (fun g e => by cases e; omega))
   have Z8 : Hid (w1.heap.size + 2 ≤ (w7.setCell ⟨w1.heap.size + 1, 3, none⟩ (.slice a7 (k + 1) c7)).heap.size) := Nat.le_trans (by omega) g8.size
   refine tkA 8 (.pointer (some ⟨w1.heap.size + 1, 3, none⟩)) rfl trivial ?_
   refine held_one 9 (by kernel_rfl) (op_skip (w' := w7.setCell ⟨w1.heap.size + 1, 3, none⟩ (.slice a7 (k + 1) c7)) rfl rfl (by go_simp) ⟨trivial, wpAnyH_done (by kernel_rfl) ?_ _⟩)
   clear hc3 hb5 hb5' hs5 R5 K5 c5 c6 B5 s6 NEW o7 b7 g7 K7 B7 hs7 x7 f7 g8 hp5 D0
   go_simp
   go_wp2
   exact ⟨⟨k + 1, _, _, by omega, by go_num, HPA.out, O8.out, K8.out, B8.out, Z8.out⟩, by simp [intOf]; omega⟩
  case B =>
   refine op_calls (f := 62) (args := #[.pointer (some ⟨sb, 0, none⟩), .string x]) rfl rfl (by go_simp) HCALL.out ?_
   rintro e w5 ⟨t, b, rfl, hp5, hb5⟩
   have hb5' : Below wr.heap.size wr w5 := ⟨hb5.os, hb5.tape, hb5.output, hb5.size, hb5.block⟩
   have hs5 := hb5'.size
   have HPA := hid (HADD.out t b hp5)
   have R5 := (part_below HRW.out hb5').alloc (.cells #[.iface 95 (.agg #[.string x, .string t, .bool b])] 61)
   have K5 := (HBK.out.below hb5').alloc (.cells #[.iface 95 (.agg #[.string x, .string t, .bool b])] 61)
   have c5 : w5.cell? ⟨w1.heap.size + 1, 3, none⟩ = some (.slice ap k cp) := (HBK.out.below hb5').cell 3
   have c6 : (w5.alloc (.cells #[.iface 95 (.agg #[.string x, .string t, .bool b])] 61)).cell? ⟨w1.heap.size + 1, 3, none⟩ = some (.slice ap k cp) := K5.cell 3
   have B5 := (HBL.out.trans (hb5'.mono HBL.out.size)).alloc (by omega) (.cells #[.iface 95 (.agg #[.string x, .string t, .bool b])] 61)
   have s6 : (w5.alloc (.cells #[.iface 95 (.agg #[.string x, .string t, .bool b])] 61)).heap.size = w5.heap.size + 1 := World.size_alloc _ _
   have NEW := fun j u (h : [.iface 95 (.agg #[.string x, .string t, .bool b])][j]? = some u) => cell_one_new w5 (.iface 95 (.agg #[.string x, .string t, .bool b])) 61 j u h
   refine ⟨_, rfl, trivial, ?_⟩
   refine tkA 5 (.iface 95 (.agg #[.string x, .string t, .bool b])) rfl trivial ?_
   refine held_two 1 6 (by kernel_rfl) ?C ?D
   case C =>
    refine op_value (v := .slice ap k cp) (w' := w5) rfl rfl (by go_simp) ⟨trivial, ?_⟩
    refine held_one 6 (by kernel_rfl) (op_value (v := .slice (some ⟨w5.heap.size, 0, none⟩) 1 1) (w' := w5.alloc (.cells #[.iface 95 (.agg #[.string x, .string t, .bool b])] 61)) rfl rfl (by go_simp) ⟨trivial, ?_⟩)
    refine held_one 7 (by kernel_rfl) (op_wp rfl rfl (wp_append_part (.tmp 36) (.tmp 41) rfl (w1.heap.size + 2) (.slice ap k cp) k vs (by go_simp) R5 ⟨w5.heap.size, 0, none⟩ 1 1 [.iface 95 (.agg #[.string x, .string t, .bool b])] (by go_simp) rfl NEW (by simp [Value.oneCell']) (by omega) (by omega) ?_))
    intro v7 w7 o7 b7 g7
    refine ⟨trivial, ?_⟩
    have K7 := K5.kept g7 (fun e => by have := (R5.lt _ e.symm).1; omega)
    have B7 := B5.grown g7 (by omega) (fun g e => by have := (R5.lt g e).1; omega)
    have hs7 := g7.size
    obtain ⟨a7, c7, rfl⟩ := parts_form o7
    have x7 : w7.cell? ⟨w1.heap.size + 1, 3, none⟩ = some (.slice ap k cp) := K7.cell 3
    have f7 := K7.fz 3
    have g8 := grownBy_setCellAt w7 (w1.heap.size + 1) 3 (.slice a7 (k + 1) c7)
    have K8 : Hid (Blk (w7.setCell ⟨w1.heap.size + 1, 3, none⟩ (.slice a7 (k + 1) c7)) (w1.heap.size + 1) 101 #[.int .i64 n, .slice (some ⟨b0, o0, none⟩) ss.length c1, .int .i64 wd, .slice a7 (k + 1) c7]) := K7.set 3 (.slice a7 (k + 1) c7)
    have O8 := hid (row_kept o7 g8 (by omega))
    have B8 := hid (B7.grown g8 (by omega) (fun g e => by cases e; omega))
    have Z8 : Hid (w1.heap.size + 2 ≤ (w7.setCell ⟨w1.heap.size + 1, 3, none⟩ (.slice a7 (k + 1) c7)).heap.size) := Nat.le_trans (by omega) g8.size
    refine tkA 8 (.pointer (some ⟨w1.heap.size + 1, 3, none⟩)) rfl trivial ?_
    refine held_one 9 (by kernel_rfl) (op_skip (w' := w7.setCell ⟨w1.heap.size + 1, 3, none⟩ (.slice a7 (k + 1) c7)) rfl rfl (by go_simp) ⟨trivial, wpAnyH_done (by kernel_rfl) ?_ _⟩)
    clear hc3 hb5 hb5' hs5 R5 K5 c5 c6 B5 s6 NEW o7 b7 g7 K7 B7 hs7 x7 f7 g8 hp5 D0
    go_simp
    go_wp2
    exact ⟨⟨k + 1, _, _, by omega, by go_num, HPA.out, O8.out, K8.out, B8.out, Z8.out⟩, by simp [intOf]; omega⟩
   case D =>
    refine op_value (v := .slice (some ⟨w5.heap.size, 0, none⟩) 1 1) (w' := w5.alloc (.cells #[.iface 95 (.agg #[.string x, .string t, .bool b])] 61)) rfl rfl (by go_simp) ⟨trivial, ?_⟩
    refine held_one 1 (by kernel_rfl) (op_value (v := .slice ap k cp) (w' := w5.alloc (.cells #[.iface 95 (.agg #[.string x, .string t, .bool b])] 61)) rfl rfl (by go_simp) ⟨trivial, ?_⟩)
    refine held_one 7 (by kernel_rfl) (op_wp rfl rfl (wp_append_part (.tmp 36) (.tmp 41) rfl (w1.heap.size + 2) (.slice ap k cp) k vs (by go_simp) R5 ⟨w5.heap.size, 0, none⟩ 1 1 [.iface 95 (.agg #[.string x, .string t, .bool b])] (by go_simp) rfl NEW (by simp [Value.oneCell']) (by omega) (by omega) ?_))
    intro v7 w7 o7 b7 g7
    refine ⟨trivial, ?_⟩
    have K7 := K5.kept g7 (fun e => by have := (R5.lt _ e.symm).1; omega)
    have B7 := B5.grown g7 (by omega) (fun g e => by have := (R5.lt g e).1; omega)
    have hs7 := g7.size
    obtain ⟨a7, c7, rfl⟩ := parts_form o7
    have x7 : w7.cell? ⟨w1.heap.size + 1, 3, none⟩ = some (.slice ap k cp) := K7.cell 3
    have f7 := K7.fz 3
    have g8 := grownBy_setCellAt w7 (w1.heap.size + 1) 3 (.slice a7 (k + 1) c7)
    have K8 : Hid (Blk (w7.setCell ⟨w1.heap.size + 1, 3, none⟩ (.slice a7 (k + 1) c7)) (w1.heap.size + 1) 101 #[.int .i64 n, .slice (some ⟨b0, o0, none⟩) ss.length c1, .int .i64 wd, .slice a7 (k + 1) c7]) := K7.set 3 (.slice a7 (k + 1) c7)
    have O8 := hid (row_kept o7 g8 (by omega))
    have B8 := hid (B7.grown g8 (by omega) (fun g e => by cases e; omega))
    have Z8 : Hid (w1.heap.size + 2 ≤ (w7.setCell ⟨w1.heap.size + 1, 3, none⟩ (.slice a7 (k + 1) c7)).heap.size) := Nat.le_trans (by omega) g8.size
    refine tkA 8 (.pointer (some ⟨w1.heap.size + 1, 3, none⟩)) rfl trivial ?_
    refine held_one 9 (by kernel_rfl) (op_skip (w' := w7.setCell ⟨w1.heap.size + 1, 3, none⟩ (.slice a7 (k + 1) c7)) rfl rfl (by go_simp) ⟨trivial, wpAnyH_done (by kernel_rfl) ?_ _⟩)
    clear hc3 hb5 hb5' hs5 R5 K5 c5 c6 B5 s6 NEW o7 b7 g7 K7 B7 hs7 x7 f7 g8 hp5 D0
    go_simp
    go_wp2
    exact ⟨⟨k + 1, _, _, by omega, by go_num, HPA.out, O8.out, K8.out, B8.out, Z8.out⟩, by simp [intOf]; omega⟩
end Go.Proofs.YtkjdabnglcabiaaGreatDoor
