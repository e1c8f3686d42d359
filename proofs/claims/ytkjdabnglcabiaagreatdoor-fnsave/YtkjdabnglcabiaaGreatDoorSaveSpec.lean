/- spec.Save. -/
import Derived.Test.YtkjdabnglcabiaaGreatDoorShort
import Derived.Test.YtkjdabnglcabiaaGreatDoorSaveMath
import Derived.Test.YtkjdabnglcabiaaGreatDoorAddSpec
import Derived.Test.YtkjdabnglcabiaaGreatDoorPutSpec
import Derived.Test.YtkjdabnglcabiaaGreatDoorNamesLaw
namespace Go.Proofs.YtkjdabnglcabiaaGreatDoor
open Go.RowKit
/-- append of a row of strings onto an own one, as a step of a region. -/
theorem wp_append_rowT {o : Oper} {a : Act} {w : World} {K : Act → World → Prop} {Q : Exit → Act → World → Prop} (s x : Operand)
  (ho : o.op = .call { callee := .builtin .append, args := #[s, x], argTypes := #[24, 24] }) (B : Nat) (v : Value) (n : Nat) (xs : List Value) (hs : a.eval s = v) (hown : w.ownsRow B 9 1 v n xs)
  (b2 : Nat) (v2 : Value) (ys : List ByteArray) (hx : a.eval x = v2) (hrow : w.ownsRow b2 9 1 v2 ys.length (ys.map Value.string)) (hlen : n + ys.length ≤ 1048576) (hB : B ≤ w.heap.size)
  (h : ∀ v' w', w'.ownsRow B 9 1 v' (n + ys.length) (xs ++ ys.map Value.string) → Below B w w' → K (a.put o.dst v') w') : o.wp Tryz.prog a w K Q := by
 rcases id hrow with ⟨hl, ⟨e, h0⟩ | ⟨g, cap, cur, e, _⟩⟩
 ·obtain rfl : ys = [] := List.length_eq_zero_iff.1 h0
  refine wp_append_nil s x ho B v n xs hs hown (hx.trans e) (h v w ?_ (Below.refl _ _))
  simpa using hown
 ·refine wp_append_cells s x ho B v n xs hs hown ⟨g, 0, none⟩ ys.length cap (ys.map Value.string) (hx.trans e) (by simp) (fun j u hj => ?_) ?_ (by omega) hB (fun v' w' h1 h2 _ => h v' w' h1 h2)
  ·have hjl := (List.getElem?_eq_some_iff.1 hj).1
   rw [List.length_map] at hjl
   subst e
   have hc := hrow.cellAt j (by omega)
   rw [addr_add, Nat.zero_add, hc, hj]
  ·intro u hu
   obtain ⟨b, _, rfl⟩ := List.mem_map.1 hu
   rfl
theorem row_of_one (w : World) (s : ByteArray) (B : Nat) (hB : B ≤ w.heap.size) : (w.alloc (.cells #[.string s] 9)).ownsRow B 9 1 (.slice (some ⟨w.heap.size, 0, none⟩) 1 1) 1 [.string s] :=
 ⟨by simp, .inr ⟨w.heap.size, 1, #[.string s], rfl, hB, World.alloc_heap_new w _, Nat.le_refl _, by simp [maxLen], by simp, by simp⟩⟩
theorem saveX_small (s : ByteArray) (wd : Int) : ∀ k, (tv (saveX s wd) k).size ≤ 1048576
 | 0 => form_small s wd
 | k + 1 => by
  show (tv (piecesOf s) k).size ≤ 1048576
  by_cases hk : k < (piecesOf s).length
  ·have h := piecesOf_size s (tv (piecesOf s) k) (by simp [tv, hk])
   omega
  ·simp only [tv]; rw [List.getD_eq_getElem?_getD, List.getElem?_eq_none (by omega)]; simp
theorem PutR.parts {wd room : Int} {its : Itms} {ts : List ByteArray} {t : ByteArray} {now wd' room' : Int} {its' : Itms} {ts' : List ByteArray} {code : Int} (hv : ValidSt wd room its ts) (h : PutR wd room its ts t now wd' room' its' ts' code) :
  (code ≠ 0 ∧ PutNo wd room ts now its t code) ∨ (code = 0 ∧ Puts t now ∧ PutI wd room (NeedTo wd its ts ts.length) its t now 0 its' ∧ wd' = wd ∧ room' = room ∧ ts' = ts) := by
 rcases h with ⟨hn, _, _, _, _, rfl⟩ | ⟨ho, c, a, hp, rfl, ⟨hc, _, _, _, _⟩ | ⟨rfl, rfl, rfl, rfl, rfl⟩⟩
 ·exact .inl ⟨by decide, .inl ⟨fun h => hn ⟨hv, h⟩, rfl⟩⟩
 ·exact .inl ⟨hc, .inr ⟨ho.2, hc, a, hp⟩⟩
 ·exact .inr ⟨rfl, ho.2, hp, rfl, rfl, rfl⟩
/-- What stands behind the pin: the store in a variable of its own. -/
def PinBox (wd room : Int) (its : Itms) (ts : List ByteArray) (name : ByteArray) (w1 : World) (s8 s9 : Value) (wx : World) : Prop :=
 ∃ ob wd' room' its' ts' code vi' vp', s8 = .pointer (some ⟨ob, 0, none⟩) ∧ s9 = .int .i64 code ∧ PinR wd room its ts name wd' room' its' ts' code ∧ Blk wx ob 26 #[.int .i64 wd', .int .i64 room', vi', vp'] ∧ StoreOwn wx w1.heap.size vi' vp' its' ts' ∧ w1.heap.size ≤ ob ∧ Below w1.heap.size w1 wx
set_option maxRecDepth 100000 in
set_option maxHeartbeats 16000000 in
theorem specSave_row (wd room : Int) (vi vp : Value) (its : Itms) (ts : List ByteArray) (s : ByteArray) (now : Int) (w : World) (b1 b2 : Nat) (hi : w.ownsRow b1 59 2 vi its.length (cellsI its)) (hp : w.ownsRow b2 9 1 vp ts.length (ts.map Value.string)) (hli : its.length ≤ 1048576) (hlp : ts.length ≤ 1048576) (hsi : ∀ i, (itx its i).size ≤ 1048576) (hsp : ∀ i, (tv ts i).size ≤ 1048576) (hss : s.size ≤ 1048576) :
  Calls Tryz.prog 6 #[.agg #[.int .i64 wd, .int .i64 room, vi, vp], .string s, .int .i64 now] w fun e w' => ∃ wd' room' its' ts' code vi' vp', e = .returned (.tuple #[.agg #[.int .i64 wd', .int .i64 room', vi', vp'], .int .i64 code]) ∧ SaveR wd room its ts s now wd' room' its' ts' code ∧ StoreOwn w' (w.heap.size + 2) vi' vp' its' ts' ∧ Below w.heap.size w w' := by
 obtain ⟨ai, ci, hvi⟩ : ∃ ai ci, vi = .slice ai its.length ci := row_any hi
 subst hvi
 obtain ⟨ap, cp, rfl, _⟩ := row_form hp
 have hA := ((Below.refl w.heap.size w).alloc (Nat.le_refl _) (.cells #[.int .i64 wd, .int .i64 room, .slice ai its.length ci, .slice ap ts.length cp] 26)).alloc (by simp) (.cells #[.int .i64 0, .int .i64 0, .slice none 0 0, .slice none 0 0] 26)
 have HN := hid ((Blk.new w 26 #[.int .i64 wd, .int .i64 room, .slice ai its.length ci, .slice ap ts.length cp]).alloc (.cells #[.int .i64 0, .int .i64 0, .slice none 0 0, .slice none 0 0] 26))
 have hN7 := Blk.new (w.alloc (.cells #[.int .i64 wd, .int .i64 room, .slice ai its.length ci, .slice ap ts.length cp] 26)) 26 #[.int .i64 0, .int .i64 0, .slice none 0 0, .slice none 0 0]
 rw [World.size_alloc] at hN7
 have HN7 := hid hN7
 have HV := hid (specValidStore_any wd room _ _ its ts _ (rdi_row (Below.row hA hi)) (Reads.of_row (Below.row hA hp)) hli hlp hsi hsp)
 have HI := hid hi
 have HP := hid hp
 have HA := hid hA
 have HPN := hid fun W a b => specPin_row wd room (.slice ai its.length ci) (.slice ap ts.length cp) its ts (nameB s wd) W b1 b2 a b hli hlp hsi hsp
 have HNM := hid fun W => specName_any s wd W (by unfold maxLen; omega)
 have HDS := hid fun W => specDescribe_any s wd W (by unfold maxLen; omega)
 have HPC := hid fun W => specPieces_any s W (by unfold maxLen; omega)
 have hL2 := fun W => l1In_any now 0 1000000 W
 clear hi hp hA hN7 hsi hsp
 go_enter Tryz.func6, Tryz.ntmps6
 go_wp2_with fail
 refine HV.out.mono ?_
 rintro e w1 ⟨b, rfl, hb, hb1⟩
 have N1 := HN.out.below hb1
 have N7 := HN7.out.below hb1
 have B1 := HA.out.trans (hb1.mono (by simp; omega))
 clear hb1
 cases b with
 | false =>
  have HF : Hid (SaveR wd room its ts s now 0 0 [] [] 1) := .inl ⟨(fun h => by have := hb.2 h.1; cases this), rfl, rfl, rfl, rfl, rfl⟩
  have s9 := N7.store4 (.int .i64 0) (.int .i64 0) (.slice none 0 0) (.slice none 0 0)
  have s0 := s9.a0; have s1 := s9.a1; have s2 := s9.a2; have s3 := s9.a3
  have k0 := s9.f0; have k1 := s9.f1; have k2 := s9.f2; have k3 := s9.f3
  have ZZ := hid s9.z
  have BB := hid ((((B1.setCell (p := ⟨w.heap.size + 1, 0, none⟩) (by simp) (.int .i64 0)).setCell (p := ⟨w.heap.size + 1, 1, none⟩) (by simp) (.int .i64 0)).setCell (p := ⟨w.heap.size + 1, 2, none⟩) (by simp) (.slice none 0 0)).setCell (p := ⟨w.heap.size + 1, 3, none⟩) (by simp) (.slice none 0 0))
  clear s9
  clear N1 N7 B1 hb hL2
  go_wp2
  refine bodyPost_ret (v := .tuple #[.agg #[.int .i64 0, .int .i64 0, .slice none 0 0, .slice none 0 0], .int .i64 1]) (by simp [results, Tryz.results6, go_sem, ZZ.out.cell]) rfl ⟨0, 0, [], [], 1, _, _, rfl, HF.out, StoreOwn.none _ _, BB.out⟩
 | true =>
 have HVAL := hid (hb.1 rfl)
 clear hb
 by_cases hbl : (3000 : Int) < (s.size : Int)
 case pos =>
  have HF : Hid (SaveR wd room its ts s now 0 0 [] [] 1) := .inl ⟨fun h => by have := h.2.1; omega, rfl, rfl, rfl, rfl, rfl⟩
  have s9 := N7.store4 (.int .i64 0) (.int .i64 0) (.slice none 0 0) (.slice none 0 0)
  have s0 := s9.a0; have s1 := s9.a1; have s2 := s9.a2; have s3 := s9.a3
  have k0 := s9.f0; have k1 := s9.f1; have k2 := s9.f2; have k3 := s9.f3
  have ZZ := hid s9.z
  have BB := hid ((((B1.setCell (p := ⟨w.heap.size + 1, 0, none⟩) (by simp) (.int .i64 0)).setCell (p := ⟨w.heap.size + 1, 1, none⟩) (by simp) (.int .i64 0)).setCell (p := ⟨w.heap.size + 1, 2, none⟩) (by simp) (.slice none 0 0)).setCell (p := ⟨w.heap.size + 1, 3, none⟩) (by simp) (.slice none 0 0))
  clear s9
  clear N1 N7 B1 hL2
  go_wp2
  refine bodyPost_ret (v := .tuple #[.agg #[.int .i64 0, .int .i64 0, .slice none 0 0, .slice none 0 0], .int .i64 1]) (by simp [results, Tryz.results6, go_sem, ZZ.out.cell]) rfl ⟨0, 0, [], [], 1, _, _, rfl, HF.out, StoreOwn.none _ _, BB.out⟩
 by_cases htm : 0 ≤ now ∧ now ≤ 1000000
 case neg =>
  have HF : Hid (SaveR wd room its ts s now 0 0 [] [] 1) := .inl ⟨fun h => htm h.2.2, rfl, rfl, rfl, rfl, rfl⟩
  rw [decide_eq_false htm] at hL2
  have s9 := N7.store4 (.int .i64 0) (.int .i64 0) (.slice none 0 0) (.slice none 0 0)
  have s0 := s9.a0; have s1 := s9.a1; have s2 := s9.a2; have s3 := s9.a3
  have k0 := s9.f0; have k1 := s9.f1; have k2 := s9.f2; have k3 := s9.f3
  have ZZ := hid s9.z
  have BB := hid ((((B1.setCell (p := ⟨w.heap.size + 1, 0, none⟩) (by simp) (.int .i64 0)).setCell (p := ⟨w.heap.size + 1, 1, none⟩) (by simp) (.int .i64 0)).setCell (p := ⟨w.heap.size + 1, 2, none⟩) (by simp) (.slice none 0 0)).setCell (p := ⟨w.heap.size + 1, 3, none⟩) (by simp) (.slice none 0 0))
  clear s9
  clear N1 N7 B1 htm
  go_wp2_with fail
  refine (hL2 _).mono ?_
  rintro e w' ⟨rfl, hw'⟩
  have hw'' := hw'.symm
  subst hw''
  clear hw'
  go_wp2
  refine bodyPost_ret (v := .tuple #[.agg #[.int .i64 0, .int .i64 0, .slice none 0 0, .slice none 0 0], .int .i64 1]) (by simp [results, Tryz.results6, go_sem, ZZ.out.cell]) rfl ⟨0, 0, [], [], 1, _, _, rfl, HF.out, StoreOwn.none _ _, BB.out⟩
 rw [decide_eq_true htm] at hL2
 have HOK : Hid (Saves wd room its ts s now) := hid ⟨HVAL.out, by omega, htm⟩
 have x0 : w1.cell? ⟨w.heap.size, 0, none⟩ = some (.int .i64 wd) := N1.cell 0
 have HN1 := hid N1
 have HN71 := hid N7
 have HB1 := hid B1
 have hs17 := N7.lt
 clear N1 N7 B1 htm
 go_wp2_with fail
 refine (hL2 _).mono ?_
 rintro e w' ⟨rfl, hw'⟩
 have hw'' := hw'.symm
 subst hw''
 clear hw' hL2
 have hec1 := enters_of Tryz.func8 (by kernel_rfl) rfl
 have hec2 := enters_of Tryz.func24 (by kernel_rfl) rfl
 have HSF := hid fun (W : World) (h : Below w1.heap.size w1 W) => (show W.cell? ⟨w.heap.size, 0, none⟩ = some (.int .i64 wd) ∧ W.cell? ⟨w.heap.size, 1, none⟩ = some (.int .i64 room) ∧ W.cell? ⟨w.heap.size, 2, none⟩ = some (.slice ai its.length ci) ∧ W.cell? ⟨w.heap.size, 3, none⟩ = some (.slice ap ts.length cp) from by
  have X := HN1.out.below h
  exact ⟨X.cell 0, X.cell 1, X.cell 2, X.cell 3⟩)
 have hbd : Below w1.heap.size w1 w1.drew := below_drewN (Below.refl _ _) 1
 have hS0 := HSF.out w1.drew hbd
 clear x0
 go_upto_region 3 with fail
 go_cut [8, 9] from 26 to 34 (fun s8 s9 wx => PinBox wd room its ts (nameB s wd) w1 s8 s9 wx)
 case first =>
  refine wp_region_held (S := fun w' => w'.cell? ⟨w.heap.size, 0, none⟩ = some (.int .i64 wd) ∧ w'.cell? ⟨w.heap.size, 1, none⟩ = some (.int .i64 room) ∧ w'.cell? ⟨w.heap.size, 2, none⟩ = some (.slice ai its.length ci) ∧ w'.cell? ⟨w.heap.size, 3, none⟩ = some (.slice ap ts.length cp)) (by kernel_rfl) ?_
  change wpAnyH _ _ _ _ _ _ _ _ (World.drew _)
  refine tkA 0 (.agg #[.int .i64 wd, .int .i64 room, .slice ai its.length ci, .slice ap ts.length cp]) rfl hS0 ?_
  refine tkA 1 (.string s) rfl hS0 ?_
  refine tkA 2 (.pointer (some ⟨w.heap.size, 0, none⟩)) rfl hS0 ?_
  refine tkA 3 (.int .i64 wd) rfl hS0 ?_
  refine held_two 4 9 (by kernel_rfl) ?A ?B
  case A =>
   refine op_calls (f := 8) (args := #[.string s, .int .i64 wd]) rfl rfl (by go_simp) (HNM.out _) ?_
   rintro e w2 ⟨rfl, hb2⟩
   have B2 : Below w1.heap.size w1 w2 := ⟨hb2.os, hb2.tape, hb2.output, hb2.size, hb2.block⟩
   have hS2 := HSF.out w2 B2
   have hz2 := B2.size
   clear hb2
   refine ⟨_, rfl, hS2, ?_⟩
   refine held_two 5 9 (by kernel_rfl) ?A1 ?A2
   case A1 =>
    refine op_calls (f := 24) (args := #[.agg #[.int .i64 wd, .int .i64 room, .slice ai its.length ci, .slice ap ts.length cp], .string (nameB s wd)]) rfl rfl (by go_simp) (HPN.out _ (row_below HI.out (HB1.out.trans (B2.mono HB1.out.size))) (Below.row (HB1.out.trans (B2.mono HB1.out.size)) HP.out)) ?_
    rintro e w3 ⟨wd3, room3, its3, ts3, code3, vi3, vp3, rfl, hpin, so3, hb3⟩
    obtain ⟨a3, c3, rfl⟩ := row_any so3.items
    obtain ⟨d3, e3, rfl⟩ := row_any so3.pins
    have HPIN := hid hpin
    have B3 : Below w1.heap.size w1 w3 := B2.trans (hb3.mono B2.size)
    have hS3 := HSF.out w3 B3
    have hz3 := B2.size
    have hz4 := hb3.size
    have hz5 := B3.size
    have SO3 : StoreOwn w3 w1.heap.size (.slice a3 its3.length c3) (.slice d3 ts3.length e3) its3 ts3 := so3.base (by omega)
    clear hpin
    refine ⟨_, rfl, hS3, ?_⟩
    refine tkA 6 (.tuple #[.agg #[.int .i64 wd3, .int .i64 room3, .slice a3 its3.length c3, .slice d3 ts3.length e3], .int .i64 code3]) rfl hS3 ?_
    refine tkA 7 (.agg #[.int .i64 wd3, .int .i64 room3, .slice a3 its3.length c3, .slice d3 ts3.length e3]) rfl hS3 ?_
    refine tkA 8 (.int .i64 code3) rfl hS3 ?_
    have BE := B3.alloc B3.size (.cells #[.int .i64 0, .int .i64 0, .slice none 0 0, .slice none 0 0] 26)
    have hS4 := HSF.out _ BE
    have BF := B3.alloc B3.size (.cells #[.int .i64 wd3, .int .i64 room3, .slice a3 its3.length c3, .slice d3 ts3.length e3] 26)
    have hSe := HSF.out _ BF
    have HBE := hid BF
    have HSO := hid (show StoreOwn (w3.alloc (.cells #[.int .i64 wd3, .int .i64 room3, .slice a3 its3.length c3, .slice d3 ts3.length e3] 26)) w1.heap.size (.slice a3 its3.length c3) (.slice d3 ts3.length e3) its3 ts3 from ⟨SO3.items.alloc _, SO3.pins.alloc _, SO3.apart⟩)
    refine held_one 9 (by kernel_rfl) (op_value (v := .pointer (some ⟨w3.heap.size, 0, none⟩)) (w' := w3.alloc (.cells #[.int .i64 0, .int .i64 0, .slice none 0 0, .slice none 0 0] 26)) rfl rfl (by go_simp) ⟨hS4, ?_⟩)
    refine held_one 10 (by kernel_rfl) (op_skip (w' := w3.alloc (.cells #[.int .i64 wd3, .int .i64 room3, .slice a3 its3.length c3, .slice d3 ts3.length e3] 26)) rfl rfl (by go_simp) ⟨hSe, ?_⟩)
    refine tkA 11 (.int .i64 code3) rfl hSe ?_
    clear BE BF hS4 SO3
    refine wpAnyH_done (by kernel_rfl) ?_ _
    clear hS0 hS3 hSe so3 hb3
    go_simp
    go_wp2_with fail
    go_meet
    exact ⟨w3.heap.size, wd3, room3, its3, ts3, code3, _, _, rfl, rfl, HPIN.out, Blk.new w3 26 _, HSO.out, (by omega), HBE.out⟩
   case A2 =>
    have hA4 := B2.alloc B2.size (.cells #[.int .i64 0, .int .i64 0, .slice none 0 0, .slice none 0 0] 26)
    have hS4 := HSF.out _ hA4
    have N2 := Blk.new w2 26 #[.int .i64 0, .int .i64 0, .slice none 0 0, .slice none 0 0]
    refine op_value (v := .pointer (some ⟨w2.heap.size, 0, none⟩)) (w' := w2.alloc (.cells #[.int .i64 0, .int .i64 0, .slice none 0 0, .slice none 0 0] 26)) rfl rfl (by go_simp) ⟨hS4, ?_⟩
    refine held_one 5 (by kernel_rfl) (op_calls (f := 24) (args := #[.agg #[.int .i64 wd, .int .i64 room, .slice ai its.length ci, .slice ap ts.length cp], .string (nameB s wd)]) rfl rfl (by go_simp) (HPN.out _ (row_below HI.out (HB1.out.trans (hA4.mono HB1.out.size))) (Below.row (HB1.out.trans (hA4.mono HB1.out.size)) HP.out)) ?_)
    rintro e w3 ⟨wd3, room3, its3, ts3, code3, vi3, vp3, rfl, hpin, so3, hb3⟩
    obtain ⟨a3, c3, rfl⟩ := row_any so3.items
    obtain ⟨d3, e3, rfl⟩ := row_any so3.pins
    have HPIN := hid hpin
    have B3 : Below w1.heap.size w1 w3 := hA4.trans (hb3.mono hA4.size)
    have hS3 := HSF.out w3 B3
    have hz3 := hA4.size
    have hz4 := hb3.size
    have hz5 := B3.size
    have SO3 : StoreOwn w3 w1.heap.size (.slice a3 its3.length c3) (.slice d3 ts3.length e3) its3 ts3 := so3.base (by omega)
    clear hpin
    refine ⟨_, rfl, hS3, ?_⟩
    refine tkA 6 (.tuple #[.agg #[.int .i64 wd3, .int .i64 room3, .slice a3 its3.length c3, .slice d3 ts3.length e3], .int .i64 code3]) rfl hS3 ?_
    refine tkA 7 (.agg #[.int .i64 wd3, .int .i64 room3, .slice a3 its3.length c3, .slice d3 ts3.length e3]) rfl hS3 ?_
    refine tkA 8 (.int .i64 code3) rfl hS3 ?_
    have X3 := N2.below hb3
    clear hS4 N2
    have s9 := X3.store4 (.int .i64 wd3) (.int .i64 room3) (.slice a3 its3.length c3) (.slice d3 ts3.length e3)
    have s0 := s9.a0; have s1 := s9.a1; have s2 := s9.a2; have s3 := s9.a3
    have k0 := s9.f0; have k1 := s9.f1; have k2 := s9.f2; have k3 := s9.f3
    have HZ := hid s9.z
    have BE := ((((B3.setCell (p := ⟨w2.heap.size, 0, none⟩) (by show w1.heap.size ≤ w2.heap.size; omega) (.int .i64 wd3)).setCell (p := ⟨w2.heap.size, 1, none⟩) (by show w1.heap.size ≤ w2.heap.size; omega) (.int .i64 room3)).setCell (p := ⟨w2.heap.size, 2, none⟩) (by show w1.heap.size ≤ w2.heap.size; omega) (.slice a3 its3.length c3)).setCell (p := ⟨w2.heap.size, 3, none⟩) (by show w1.heap.size ≤ w2.heap.size; omega) (.slice d3 ts3.length e3))
    have GG := fun (x : World) (j : Nat) (y : Value) => grownBy_setCellAt x (w2.heap.size) j y
    have hni : ∀ g, (Value.slice a3 its3.length c3).ownBlock = some g → ¬ g = w2.heap.size := fun g e h => row_no_blk SO3.items X3 (by decide) (e.trans (congrArg some h))
    have hnp : ∀ g, (Value.slice d3 ts3.length e3).ownBlock = some g → ¬ g = w2.heap.size := fun g e h => row_no_blk SO3.pins X3 (by decide) (e.trans (congrArg some h))
    have T3 : But (fun x => x = w2.heap.size) w3 ((((w3.setCell ⟨w2.heap.size, 0, none⟩ (.int .i64 wd3)).setCell ⟨w2.heap.size, 1, none⟩ (.int .i64 room3)).setCell ⟨w2.heap.size, 2, none⟩ (.slice a3 its3.length c3)).setCell ⟨w2.heap.size, 3, none⟩ (.slice d3 ts3.length e3)) := But.of_grown (P := fun x => x = w2.heap.size) (grown_same (grown_same (grown_same (GG w3 0 (.int .i64 wd3)) (GG _ 1 (.int .i64 room3))) (GG _ 2 (.slice a3 its3.length c3))) (GG _ 3 (.slice d3 ts3.length e3))) rfl
    have HSO := hid (show StoreOwn ((((w3.setCell ⟨w2.heap.size, 0, none⟩ (.int .i64 wd3)).setCell ⟨w2.heap.size, 1, none⟩ (.int .i64 room3)).setCell ⟨w2.heap.size, 2, none⟩ (.slice a3 its3.length c3)).setCell ⟨w2.heap.size, 3, none⟩ (.slice d3 ts3.length e3)) w1.heap.size (.slice a3 its3.length c3) (.slice d3 ts3.length e3) its3 ts3 from ⟨T3.row SO3.items hni, T3.row SO3.pins hnp, SO3.apart⟩)
    have HBE := hid BE
    have hSe := HSF.out _ BE
    refine held_one 10 (by kernel_rfl) (op_skip (w' := ((((w3.setCell ⟨w2.heap.size, 0, none⟩ (.int .i64 wd3)).setCell ⟨w2.heap.size, 1, none⟩ (.int .i64 room3)).setCell ⟨w2.heap.size, 2, none⟩ (.slice a3 its3.length c3)).setCell ⟨w2.heap.size, 3, none⟩ (.slice d3 ts3.length e3))) rfl rfl (by go_simp) ⟨hSe, ?_⟩)
    refine tkA 11 (.int .i64 code3) rfl hSe ?_
    clear s9 s0 s1 s2 s3 k0 k1 k2 k3 BE GG T3 hni hnp SO3 X3
    refine wpAnyH_done (by kernel_rfl) ?_ _
    clear hS0 hS3 hSe so3 hb3
    go_simp
    go_wp2_with fail
    go_meet
    exact ⟨w2.heap.size, wd3, room3, its3, ts3, code3, _, _, rfl, rfl, HPIN.out, HZ.out, HSO.out, (by omega), HBE.out⟩
  case B =>
   have hA4 : Below w1.heap.size w1 (w1.alloc (.cells #[.int .i64 0, .int .i64 0, .slice none 0 0, .slice none 0 0] 26)).drew := below_drewN ((Below.refl w1.heap.size w1).alloc (Nat.le_refl _) (.cells #[.int .i64 0, .int .i64 0, .slice none 0 0, .slice none 0 0] 26)) 1
   have hS4 := HSF.out _ hA4
   have N2 := Blk.new w1 26 #[.int .i64 0, .int .i64 0, .slice none 0 0, .slice none 0 0]
   refine op_value (v := .pointer (some ⟨w1.heap.size, 0, none⟩)) (w' := (w1.alloc (.cells #[.int .i64 0, .int .i64 0, .slice none 0 0, .slice none 0 0] 26)).drew) rfl rfl (by go_simp) ⟨hS4, ?_⟩
   refine held_one 4 (by kernel_rfl) (op_calls (f := 8) (args := #[.string s, .int .i64 wd]) rfl rfl (by go_simp) (HNM.out _) ?_)
   rintro e w2 ⟨rfl, hb2⟩
   have B2 : Below w1.heap.size w1 w2 := hA4.trans (hb2.mono hA4.size)
   have N3 : Blk w2 w1.heap.size 26 #[.int .i64 0, .int .i64 0, .slice none 0 0, .slice none 0 0] := (hb2.block _ N2.lt).trans N2
   have hS2 := HSF.out w2 B2
   have hz2 := B2.size
   clear hb2
   refine ⟨_, rfl, hS2, ?_⟩
   refine held_one 5 (by kernel_rfl) (op_calls (f := 24) (args := #[.agg #[.int .i64 wd, .int .i64 room, .slice ai its.length ci, .slice ap ts.length cp], .string (nameB s wd)]) rfl rfl (by go_simp) (HPN.out _ (row_below HI.out (HB1.out.trans (B2.mono HB1.out.size))) (Below.row (HB1.out.trans (B2.mono HB1.out.size)) HP.out)) ?_)
   rintro e w3 ⟨wd3, room3, its3, ts3, code3, vi3, vp3, rfl, hpin, so3, hb3⟩
   obtain ⟨a3, c3, rfl⟩ := row_any so3.items
   obtain ⟨d3, e3, rfl⟩ := row_any so3.pins
   have HPIN := hid hpin
   have B3 : Below w1.heap.size w1 w3 := B2.trans (hb3.mono B2.size)
   have hS3 := HSF.out w3 B3
   have hz3 := B2.size
   have hz4 := hb3.size
   have hz5 := B3.size
   have SO3 : StoreOwn w3 w1.heap.size (.slice a3 its3.length c3) (.slice d3 ts3.length e3) its3 ts3 := so3.base (by omega)
   clear hpin
   refine ⟨_, rfl, hS3, ?_⟩
   refine tkA 6 (.tuple #[.agg #[.int .i64 wd3, .int .i64 room3, .slice a3 its3.length c3, .slice d3 ts3.length e3], .int .i64 code3]) rfl hS3 ?_
   refine tkA 7 (.agg #[.int .i64 wd3, .int .i64 room3, .slice a3 its3.length c3, .slice d3 ts3.length e3]) rfl hS3 ?_
   refine tkA 8 (.int .i64 code3) rfl hS3 ?_
   have X3 := N3.below hb3
   clear hS4 N2 N3
   have s9 := X3.store4 (.int .i64 wd3) (.int .i64 room3) (.slice a3 its3.length c3) (.slice d3 ts3.length e3)
   have s0 := s9.a0; have s1 := s9.a1; have s2 := s9.a2; have s3 := s9.a3
   have k0 := s9.f0; have k1 := s9.f1; have k2 := s9.f2; have k3 := s9.f3
   have HZ := hid s9.z
   have BE := ((((B3.setCell (p := ⟨w1.heap.size, 0, none⟩) (by show w1.heap.size ≤ w1.heap.size; omega) (.int .i64 wd3)).setCell (p := ⟨w1.heap.size, 1, none⟩) (by show w1.heap.size ≤ w1.heap.size; omega) (.int .i64 room3)).setCell (p := ⟨w1.heap.size, 2, none⟩) (by show w1.heap.size ≤ w1.heap.size; omega) (.slice a3 its3.length c3)).setCell (p := ⟨w1.heap.size, 3, none⟩) (by show w1.heap.size ≤ w1.heap.size; omega) (.slice d3 ts3.length e3))
   have GG := fun (x : World) (j : Nat) (y : Value) => grownBy_setCellAt x (w1.heap.size) j y
   have hni : ∀ g, (Value.slice a3 its3.length c3).ownBlock = some g → ¬ g = w1.heap.size := fun g e h => row_no_blk SO3.items X3 (by decide) (e.trans (congrArg some h))
   have hnp : ∀ g, (Value.slice d3 ts3.length e3).ownBlock = some g → ¬ g = w1.heap.size := fun g e h => row_no_blk SO3.pins X3 (by decide) (e.trans (congrArg some h))
   have T3 : But (fun x => x = w1.heap.size) w3 ((((w3.setCell ⟨w1.heap.size, 0, none⟩ (.int .i64 wd3)).setCell ⟨w1.heap.size, 1, none⟩ (.int .i64 room3)).setCell ⟨w1.heap.size, 2, none⟩ (.slice a3 its3.length c3)).setCell ⟨w1.heap.size, 3, none⟩ (.slice d3 ts3.length e3)) := But.of_grown (P := fun x => x = w1.heap.size) (grown_same (grown_same (grown_same (GG w3 0 (.int .i64 wd3)) (GG _ 1 (.int .i64 room3))) (GG _ 2 (.slice a3 its3.length c3))) (GG _ 3 (.slice d3 ts3.length e3))) rfl
   have HSO := hid (show StoreOwn ((((w3.setCell ⟨w1.heap.size, 0, none⟩ (.int .i64 wd3)).setCell ⟨w1.heap.size, 1, none⟩ (.int .i64 room3)).setCell ⟨w1.heap.size, 2, none⟩ (.slice a3 its3.length c3)).setCell ⟨w1.heap.size, 3, none⟩ (.slice d3 ts3.length e3)) w1.heap.size (.slice a3 its3.length c3) (.slice d3 ts3.length e3) its3 ts3 from ⟨T3.row SO3.items hni, T3.row SO3.pins hnp, SO3.apart⟩)
   have HBE := hid BE
   have hSe := HSF.out _ BE
   refine held_one 10 (by kernel_rfl) (op_skip (w' := ((((w3.setCell ⟨w1.heap.size, 0, none⟩ (.int .i64 wd3)).setCell ⟨w1.heap.size, 1, none⟩ (.int .i64 room3)).setCell ⟨w1.heap.size, 2, none⟩ (.slice a3 its3.length c3)).setCell ⟨w1.heap.size, 3, none⟩ (.slice d3 ts3.length e3))) rfl rfl (by go_simp) ⟨hSe, ?_⟩)
   refine tkA 11 (.int .i64 code3) rfl hSe ?_
   clear s9 s0 s1 s2 s3 k0 k1 k2 k3 BE GG T3 hni hnp SO3 X3
   refine wpAnyH_done (by kernel_rfl) ?_ _
   clear hS0 hS3 hSe so3 hb3
   go_simp
   go_wp2_with fail
   go_meet
   exact ⟨w1.heap.size, wd3, room3, its3, ts3, code3, _, _, rfl, rfl, HPIN.out, HZ.out, HSO.out, (by omega), HBE.out⟩
 case rest =>
  obtain ⟨w5, hw5⟩ : ∃ x, x = wc := ⟨_, rfl⟩
  subst hw5
  obtain ⟨ob, wd', room', its', ts', code, vi', vp', rfl, rfl, hpin, hox, hso, hob, hb5⟩ := hcut
  have Z5 := HN71.out.below hb5
  have B5 := HB1.out.trans (hb5.mono HB1.out.size)
  have hs5 := hb5.size
  clear hS0 hbd
  rcases hpin with ⟨hn, e1, e2, e3, e4, e5⟩ | ⟨⟨_, hsz⟩, h10, e1, e2, e3, e4, e5⟩ | ⟨⟨_, hsz⟩, h10, e1, e2, e3, e4, e5⟩
  ·subst e5
   have HF : Hid (SaveR wd room its ts s now 0 0 [] [] 1) := .inr ⟨HOK.out, 1, [], .inl ⟨fun h => hn ⟨HVAL.out, h⟩, rfl, rfl⟩, rfl, .inl ⟨by decide, rfl, rfl, rfl, rfl⟩⟩
   have s9 := Z5.store4 (.int .i64 0) (.int .i64 0) (.slice none 0 0) (.slice none 0 0)
   have s0 := s9.a0; have s1 := s9.a1; have s2 := s9.a2; have s3 := s9.a3
   have k0 := s9.f0; have k1 := s9.f1; have k2 := s9.f2; have k3 := s9.f3
   have ZZ := hid s9.z
   have BB := hid ((((B5.setCell (p := ⟨w.heap.size + 1, 0, none⟩) (by simp) (.int .i64 0)).setCell (p := ⟨w.heap.size + 1, 1, none⟩) (by simp) (.int .i64 0)).setCell (p := ⟨w.heap.size + 1, 2, none⟩) (by simp) (.slice none 0 0)).setCell (p := ⟨w.heap.size + 1, 3, none⟩) (by simp) (.slice none 0 0))
   clear s9
   clear hn e1 e2 e3 e4 hox hso hob hb5 Z5 B5
   go_wp2
   refine bodyPost_ret (v := .tuple #[.agg #[.int .i64 0, .int .i64 0, .slice none 0 0, .slice none 0 0], .int .i64 1]) (by simp [results, Tryz.results6, go_sem, ZZ.out.cell]) rfl ⟨0, 0, [], [], 1, _, _, rfl, HF.out, StoreOwn.none _ _, BB.out⟩
  ·subst e5
   have HF : Hid (SaveR wd room its ts s now 0 0 [] [] 2) := .inr ⟨HOK.out, 2, [], .inr (.inl ⟨hsz, h10, rfl, rfl⟩), rfl, .inl ⟨by decide, rfl, rfl, rfl, rfl⟩⟩
   have s9 := Z5.store4 (.int .i64 0) (.int .i64 0) (.slice none 0 0) (.slice none 0 0)
   have s0 := s9.a0; have s1 := s9.a1; have s2 := s9.a2; have s3 := s9.a3
   have k0 := s9.f0; have k1 := s9.f1; have k2 := s9.f2; have k3 := s9.f3
   have ZZ := hid s9.z
   have BB := hid ((((B5.setCell (p := ⟨w.heap.size + 1, 0, none⟩) (by simp) (.int .i64 0)).setCell (p := ⟨w.heap.size + 1, 1, none⟩) (by simp) (.int .i64 0)).setCell (p := ⟨w.heap.size + 1, 2, none⟩) (by simp) (.slice none 0 0)).setCell (p := ⟨w.heap.size + 1, 3, none⟩) (by simp) (.slice none 0 0))
   clear s9
   clear hsz h10 e1 e2 e3 e4 hox hso hob hb5 Z5 B5
   go_wp2
   refine bodyPost_ret (v := .tuple #[.agg #[.int .i64 0, .int .i64 0, .slice none 0 0, .slice none 0 0], .int .i64 2]) (by simp [results, Tryz.results6, go_sem, ZZ.out.cell]) rfl ⟨0, 0, [], [], 2, _, _, rfl, HF.out, StoreOwn.none _ _, BB.out⟩
  subst e5
  have f1 := e1.symm; subst f1; have f2 := e2.symm; subst f2; have f3 := e3.symm; subst f3
  clear e1 e2 e3
  rw [e4] at hso
  clear e4
  have HVP := hid (HVAL.out.pinned hsz h10)
  have HSV : Hid (∀ code b, PutsR wd room (addT (nameB s wd) ts) now its (saveX s wd) code b → SaveS wd room its ts s now code b) := hid fun code b h => .inr (.inr ⟨hsz, h10, h⟩)
  obtain ⟨t1, ht1⟩ : ∃ x, x = addT (nameB s wd) ts := ⟨_, rfl⟩
  rw [← ht1] at HVP HSV hso
  clear hsz h10
  have HT1 := hid ht1
  clear ht1
  obtain ⟨a4, c4, rfl⟩ := row_any hso.items
  obtain ⟨b4, d4, rfl⟩ := row_any hso.pins
  have HN5 := hid (HN1.out.below hb5)
  have HZ5 := hid Z5
  have HB5 := hid B5
  have HO5 := hid hox
  have HSO5 := hid hso
  have HSG := hid fun (W : World) (h : Below w5.heap.size w5 W) => (show W.cell? ⟨w.heap.size, 0, none⟩ = some (.int .i64 wd) from (HN5.out.below h).cell 0)
  have hbd : Below w5.heap.size w5 w5.drew := below_drewN (Below.refl _ _) 1
  have hS6 := HSG.out w5.drew hbd
  have HFM := hid fun W v (h : Reads W v (descS s wd)) => specFormList_any (descN s wd) v (descS s wd) wd W h (by have := descS_len s wd; unfold maxLen; omega) (descS_size s wd)
  have HXS : Hid (saveX s wd = formR (descN s wd) (descS s wd) wd :: piecesOf s) := hid rfl
  have hxl := piecesOf_len s
  have HSM := hid (saveX_small s wd)
  have hol := hox.lt
  have hec3 := enters_of Tryz.func26 (by kernel_rfl) rfl
  have hec4 := enters_of Tryz.func25 (by kernel_rfl) rfl
  have hec5 := enters_of Tryz.func27 (by kernel_rfl) rfl
  have hec6 := enters_of Tryz.func28 (by kernel_rfl) rfl
  clear Z5 B5 hox hso hb5 hbd HPN HNM HN HN7 HV
  generalize formR (descN s wd) (descS s wd) wd = fr at *
  generalize descS s wd = ds at *
  generalize descN s wd = dn at *
  generalize piecesOf s = ps at *
  generalize saveX s wd = xs at *
  go_upto_region 6 with fail
  go_cut [10] from 39 to 49 (fun s10 wx => wx.ownsRow w5.heap.size 9 1 s10 xs.length (xs.map Value.string) ∧ Below w5.heap.size w5 wx)
  case first =>
   refine wp_region_held (S := fun w' => w'.cell? ⟨w.heap.size, 0, none⟩ = some (.int .i64 wd)) (by kernel_rfl) ?_
   change wpAnyH _ _ _ _ _ _ _ _ (World.drew _)
   refine tkA 0 (.string s) rfl hS6 ?_
   refine tkA 1 (.pointer (some ⟨w.heap.size, 0, none⟩)) rfl hS6 ?_
   refine tkA 2 (.int .i64 wd) rfl hS6 ?_
   refine tkA 4 (.pointer (some ⟨w.heap.size, 0, none⟩)) rfl hS6 ?_
   refine tkA 5 (.int .i64 wd) rfl hS6 ?_
   refine tkA 8 (.string s) rfl hS6 ?_
   refine held_one 3 (by kernel_rfl) (op_calls (f := 26) (args := #[.string s, .int .i64 wd]) rfl rfl (by go_simp) (HDS.out _) ?_)
   rintro e w6 ⟨vd, rfl, ho6, hb6⟩
   have D6 : Below w5.heap.size w5 w6 := ⟨hb6.os, hb6.tape, hb6.output, hb6.size, hb6.block⟩
   have hS61 := HSG.out w6 D6
   refine ⟨_, rfl, hS61, ?_⟩
   refine held_one 6 (by kernel_rfl) (op_calls (f := 25) (args := #[.agg #[.int .i64 dn, vd], .int .i64 wd]) rfl rfl (by go_simp) (HFM.out _ _ (Reads.of_row ho6)) ?_)
   rintro e w7 ⟨rfl, hb7⟩
   have D7 : Below w5.heap.size w5 w7 := D6.trans (hb7.mono D6.size)
   have hS7 := HSG.out w7 D7
   have hz7 := D7.size
   refine ⟨_, rfl, hS7, ?_⟩
   clear hb6 hb7 ho6 D6 hS61
   refine held_two 7 9 (by kernel_rfl) ?C ?D
   case C =>
    have D7a := D7.alloc D7.size (.cells #[.string fr] 9)
    have hS7a := HSG.out _ D7a
    have R7 := row_of_one w7 fr w5.heap.size hz7
    refine op_value (v := .slice (some ⟨w7.heap.size, 0, none⟩) 1 1) (w' := w7.alloc (.cells #[.string fr] 9)) rfl rfl (by go_simp) ⟨hS7a, ?_⟩
    refine held_one 9 (by kernel_rfl) (op_calls (f := 27) (args := #[.string s]) rfl rfl (by go_simp) (HPC.out _) ?_)
    rintro e w8 ⟨vq, rfl, ho8, hb8⟩
    have R8 := Below.row hb8 R7
    have D8 : Below w5.heap.size w5 w8 := D7a.trans (hb8.mono D7a.size)
    have hS8 := HSG.out w8 D8
    refine ⟨_, rfl, hS8, ?_⟩
    clear hb8 R7 hS7 hS7a D7a D7
    refine held_one 10 (by kernel_rfl) (op_wp rfl rfl (wp_append_rowT (.tmp 46) (.tmp 48) rfl w5.heap.size (.slice (some ⟨w7.heap.size, 0, none⟩) 1 1) 1 [.string fr] (by go_simp) R8 _ vq ps (by go_simp) ho8 (by omega) D8.size ?_))
    intro v9 w9 ho9 hb9
    have D9 : Below w5.heap.size w5 w9 := D8.trans hb9
    have hS9 := HSG.out w9 D9
    have HR9 : Hid (w9.ownsRow w5.heap.size 9 1 v9 xs.length (xs.map Value.string)) := hid (by
     rw [HXS.out]
     have e : (fr :: ps).length = 1 + ps.length := by rw [List.length_cons, Nat.add_comm]
     rw [e]
     exact ho9)
    have HD9 := hid D9
    refine ⟨hS9, ?_⟩
    refine tkA 11 (v9) rfl hS9 ?_
    refine wpAnyH_done (by kernel_rfl) ?_ _
    clear hS6 hS8 hS9 ho9 hb9 D8 D9 R8 ho8
    go_simp
    go_wp2_with fail
    go_meet
    exact ⟨HR9.out, HD9.out⟩
   case D =>
    refine op_calls (f := 27) (args := #[.string s]) rfl rfl (by go_simp) (HPC.out _) ?_
    rintro e w8 ⟨vq, rfl, ho7, hb8⟩
    have D7a : Below w5.heap.size w5 w8 := D7.trans (hb8.mono D7.size)
    have hS7a := HSG.out w8 D7a
    refine ⟨_, rfl, hS7a, ?_⟩
    have R8 := row_of_one w8 fr w5.heap.size D7a.size
    have ho8 := ho7.alloc (.cells #[.string fr] 9)
    have D8 := D7a.alloc D7a.size (.cells #[.string fr] 9)
    have hS8 := HSG.out _ D8
    refine held_one 7 (by kernel_rfl) (op_value (v := .slice (some ⟨w8.heap.size, 0, none⟩) 1 1) (w' := w8.alloc (.cells #[.string fr] 9)) rfl rfl (by go_simp) ⟨hS8, ?_⟩)
    clear hb8 hS7 hS7a D7a D7 ho7
    refine held_one 10 (by kernel_rfl) (op_wp rfl rfl (wp_append_rowT (.tmp 46) (.tmp 48) rfl w5.heap.size (.slice (some ⟨w8.heap.size, 0, none⟩) 1 1) 1 [.string fr] (by go_simp) R8 _ vq ps (by go_simp) ho8 (by omega) D8.size ?_))
    intro v9 w9 ho9 hb9
    have D9 : Below w5.heap.size w5 w9 := D8.trans hb9
    have hS9 := HSG.out w9 D9
    have HR9 : Hid (w9.ownsRow w5.heap.size 9 1 v9 xs.length (xs.map Value.string)) := hid (by
     rw [HXS.out]
     have e : (fr :: ps).length = 1 + ps.length := by rw [List.length_cons, Nat.add_comm]
     rw [e]
     exact ho9)
    have HD9 := hid D9
    refine ⟨hS9, ?_⟩
    refine tkA 11 (v9) rfl hS9 ?_
    refine wpAnyH_done (by kernel_rfl) ?_ _
    clear hS6 hS8 hS9 ho9 hb9 D8 D9 R8 ho8
    go_simp
    go_wp2_with fail
    go_meet
    exact ⟨HR9.out, HD9.out⟩
  case rest =>
   obtain ⟨w6, hw6⟩ : ∃ x, x = wc := ⟨_, rfl⟩
   subst hw6
   obtain ⟨hr6, hb6⟩ := hcut
   obtain ⟨ax, cx, rfl, _⟩ := row_form hr6
   have HR6 := hid hr6
   have HZ6 := hid (HZ5.out.below hb6)
   have HO6 := hid (HO5.out.below hb6)
   have HSO6 := hid (HSO5.out.below hb6)
   have HB6 := hid (HB5.out.trans (hb6.mono HB5.out.size))
   have hs6 := hb6.size
   have hx6 : xs.length ≤ 3001 := by rw [HXS.out, List.length_cons]; omega
   clear hr6 hb6 hS6 HZ5 HO5 HSO5 HDS HFM HPC HSG HXS
   go_wp2
   go_loopw [9, 11] (fun cv iv wr => cv = .int .i64 0 ∧ ∃ (k : Nat) (a : Itms) (v1 v2 : Value), iv = .int .i64 k ∧ k ≤ xs.length ∧ PutTo wd room t1 now its xs k a ∧ Blk wr ob 26 #[.int .i64 wd, .int .i64 room, v1, v2] ∧ StoreOwn wr (w.heap.size + 2) v1 v2 a t1 ∧ But (fun b => b = ob) w6 wr) (fun _ iv _ => xs.length - (intOf iv).toNat)
   case atStart => exact ⟨rfl, 0, its, _, _, rfl, Nat.zero_le _, .zero, HO6.out, HSO6.out.base (by omega), But.refl _ _⟩
   case round =>
    obtain ⟨rfl, k, a, v1, v2, rfl, hk, hto, hox, hso, hbt⟩ := hrel
    obtain ⟨va, vc, rfl⟩ := row_any hso.items
    obtain ⟨vb, vd, rfl⟩ := row_any hso.pins
    have hva := hto.valid HVP.out
    have HTO := hid hto
    have HVA := hid hva
    have HOX := hid hox
    have HSO := hid hso
    have HBT := hid hbt
    have hsr := hbt.size
    have HZR := hid (hbt.blk HZ6.out (fun e => by have e' : w.heap.size + 1 = ob := e; omega))
    have HRR := hid (hbt.row HR6.out (fun g e h => by have := (HR6.out.lt g e).1; have h' : g = ob := h; omega))
    have HBW : Hid (Below w.heap.size w wr) := hid (HB6.out.trans (hbt.below (by have := HB6.out.size; omega) (fun b e => by have e' : b = ob := e; omega)))
    have hwr := HBW.out.size
    clear hto hva hox hso hbt
    by_cases hlt : k < xs.length
    ·obtain ⟨gx, capx, ex, hgx, hgxl⟩ := World.ownsRow.form HRR.out (by omega)
     obtain ⟨rfl, _, rfl⟩ : ax = some ⟨gx, 0, none⟩ ∧ xs.length = xs.length ∧ cx = capx := Value.slice.inj ex
     clear ex
     have hcx : ∀ W : World, W.ownsRow w5.heap.size 9 1 (.slice (some ⟨gx, 0, none⟩) xs.length cx) xs.length (xs.map Value.string) → W.cell? ⟨gx, k, none⟩ = some (.string (tv xs k)) := fun W h => by
      rw [h.cellAt k (by omega)]
      simp [tv, hlt]
     have HCX := hid hcx
     clear hcx
     have htz := HSM.out k
     have hki : ((k : Nat) : Int) < ((xs.length : Nat) : Int) := by omega
     obtain ⟨tk, htk⟩ : ∃ x, x = tv xs k := ⟨_, rfl⟩
     have HTK := hid htk
     rw [← htk] at htz
     clear htk
     have hbd : Below wr.heap.size wr wr.drew := below_drewN (Below.refl _ _) 1
     have HSQ := hid fun (W : World) (h : Below wr.heap.size wr W) => (show W.cell? ⟨gx, k, none⟩ = some (.string tk) from by rw [HTK.out]; exact HCX.out W (Below.row h HRR.out))
     have hS7 := HSQ.out wr.drew hbd
     have x0 : wr.drew.cell? ⟨ob, 0, none⟩ = some (.int .i64 wd) := HOX.out.cell 0
     have x1 : wr.drew.cell? ⟨ob, 1, none⟩ = some (.int .i64 room) := HOX.out.cell 1
     have x2 : wr.drew.cell? ⟨ob, 2, none⟩ = some (.slice va a.length vc) := HOX.out.cell 2
     have x3 : wr.drew.cell? ⟨ob, 3, none⟩ = some (.slice vb t1.length vd) := HOX.out.cell 3
     have hal := HVA.out.items
     have htl := HVA.out.pins
     have hwd8 : 1 ≤ wd ∧ wd ≤ 8 := by have := HVA.out.width; simpa [isW] using this
     have HSOd := hid (HSO.out.below hbd)
     have HPT := hid (specPut_any wd room (.slice va a.length vc) (.slice vb t1.length vd) a t1 tk now wr.drew _ _ HSOd.out.items HSOd.out.pins (by omega) (by omega) (item_small HVA.out.each) (pin_small HVA.out.sums hwd8.2) htz)
     go_wp2_with fail
     refine wp_region_held (S := fun w' => w'.cell? ⟨gx, k, none⟩ = some (.string tk)) (by kernel_rfl) ?_
     change wpAnyH _ _ _ _ _ _ _ _ (World.drew _)
     refine tkA 1 (.slice (some ⟨gx, 0, none⟩) xs.length cx) rfl hS7 ?_
     refine tkA 2 (.int .i64 (k : Nat)) rfl hS7 ?_
     refine tkA 3 (.pointer (some ⟨gx, k, none⟩)) rfl hS7 ?_
     refine tkA 4 (.string tk) rfl hS7 ?_
     refine tkA 5 (.int .i64 now) rfl hS7 ?_
     refine held_one 0 (by kernel_rfl) (op_value (v := .agg #[.int .i64 wd, .int .i64 room, .slice va a.length vc, .slice vb t1.length vd]) (w' := wr.drew) rfl rfl (by go_simp) ⟨hS7, ?_⟩)
     clear x0 x1 x2 x3
     refine held_one 6 (by kernel_rfl) (op_calls (f := 28) (args := #[.agg #[.int .i64 wd, .int .i64 room, .slice va a.length vc, .slice vb t1.length vd], .string tk, .int .i64 now]) rfl rfl (by go_simp) HPT.out ?_)
     rintro e w9 ⟨wd9, room9, its9, ts9, code9, vi9, vp9, rfl, hput, so9, hb9⟩
     obtain ⟨a9, c9, rfl⟩ := row_any so9.items
     obtain ⟨b9, d9, rfl⟩ := row_any so9.pins
     have D9 : Below wr.heap.size wr w9 := ⟨hb9.os, hb9.tape, hb9.output, hb9.size, hb9.block⟩
     have hS9 := HSQ.out w9 D9
     have hz9 := D9.size
     have hwd : wr.drew.heap.size = wr.heap.size := rfl
     have SO9 : StoreOwn w9 (w.heap.size + 2) (.slice a9 its9.length c9) (.slice b9 ts9.length d9) its9 ts9 := so9.base (by omega)
     have HPR := hid (hput.parts HVA.out)
     clear hput hwd
     refine ⟨_, rfl, hS9, ?_⟩
     refine tkA 7 (.tuple #[.agg #[.int .i64 wd9, .int .i64 room9, .slice a9 its9.length c9, .slice b9 ts9.length d9], .int .i64 code9]) rfl hS9 ?_
     refine tkA 8 (.agg #[.int .i64 wd9, .int .i64 room9, .slice a9 its9.length c9, .slice b9 ts9.length d9]) rfl hS9 ?_
     refine tkA 9 (.int .i64 code9) rfl hS9 ?_
     have X9 := HOX.out.below D9
     have s9 := X9.store4 (.int .i64 wd9) (.int .i64 room9) (.slice a9 its9.length c9) (.slice b9 ts9.length d9)
     have s0 := s9.a0; have s1 := s9.a1; have s2 := s9.a2; have s3 := s9.a3
     have k0 := s9.f0; have k1 := s9.f1; have k2 := s9.f2; have k3 := s9.f3
     have HZ := hid s9.z
     have GG := fun (x : World) (j : Nat) (y : Value) => grownBy_setCellAt x ob j y
     have hni : ∀ g, (Value.slice a9 its9.length c9).ownBlock = some g → ¬ g = ob := fun g e h => row_no_blk SO9.items X9 (by decide) (e.trans (congrArg some h))
     have hnp : ∀ g, (Value.slice b9 ts9.length d9).ownBlock = some g → ¬ g = ob := fun g e h => row_no_blk SO9.pins X9 (by decide) (e.trans (congrArg some h))
     have T9 : But (fun x => x = ob) w9 ((((w9.setCell ⟨ob, 0, none⟩ (.int .i64 wd9)).setCell ⟨ob, 1, none⟩ (.int .i64 room9)).setCell ⟨ob, 2, none⟩ (.slice a9 its9.length c9)).setCell ⟨ob, 3, none⟩ (.slice b9 ts9.length d9)) := But.of_grown (P := fun x => x = ob) (grown_same (grown_same (grown_same (GG w9 0 (.int .i64 wd9)) (GG _ 1 (.int .i64 room9))) (GG _ 2 (.slice a9 its9.length c9))) (GG _ 3 (.slice b9 ts9.length d9))) rfl
     have HSO9 := hid (show StoreOwn ((((w9.setCell ⟨ob, 0, none⟩ (.int .i64 wd9)).setCell ⟨ob, 1, none⟩ (.int .i64 room9)).setCell ⟨ob, 2, none⟩ (.slice a9 its9.length c9)).setCell ⟨ob, 3, none⟩ (.slice b9 ts9.length d9)) (w.heap.size + 2) (.slice a9 its9.length c9) (.slice b9 ts9.length d9) its9 ts9 from ⟨T9.row SO9.items hni, T9.row SO9.pins hnp, SO9.apart⟩)
     have TT : But (fun x => x = ob) wr ((((w9.setCell ⟨ob, 0, none⟩ (.int .i64 wd9)).setCell ⟨ob, 1, none⟩ (.int .i64 room9)).setCell ⟨ob, 2, none⟩ (.slice a9 its9.length c9)).setCell ⟨ob, 3, none⟩ (.slice b9 ts9.length d9)) := (But.of_below D9).trans T9 (fun _ _ h => h)
     have HTT := hid TT
     have hS10 : ((((w9.setCell ⟨ob, 0, none⟩ (.int .i64 wd9)).setCell ⟨ob, 1, none⟩ (.int .i64 room9)).setCell ⟨ob, 2, none⟩ (.slice a9 its9.length c9)).setCell ⟨ob, 3, none⟩ (.slice b9 ts9.length d9)).cell? ⟨gx, k, none⟩ = some (.string tk) := by rw [HTK.out]; exact HCX.out _ (TT.row HRR.out (fun g e h => by have e' : gx = g := Option.some.inj e; have h' : g = ob := h; omega))
     refine held_one 10 (by kernel_rfl) (op_skip (w' := ((((w9.setCell ⟨ob, 0, none⟩ (.int .i64 wd9)).setCell ⟨ob, 1, none⟩ (.int .i64 room9)).setCell ⟨ob, 2, none⟩ (.slice a9 its9.length c9)).setCell ⟨ob, 3, none⟩ (.slice b9 ts9.length d9))) rfl rfl (by go_simp) ⟨hS10, ?_⟩)
     refine tkA 11 (.int .i64 code9) rfl hS10 ?_
     refine wpAnyH_done (by kernel_rfl) ?_ _
     clear hS7 hS9 s9 s0 s1 s2 s3 k0 k1 k2 k3 GG hni hnp T9 TT X9 SO9 so9 hb9
     obtain ⟨w10, hw10⟩ : ∃ x, x = ((((w9.setCell ⟨ob, 0, none⟩ (.int .i64 wd9)).setCell ⟨ob, 1, none⟩ (.int .i64 room9)).setCell ⟨ob, 2, none⟩ (.slice a9 its9.length c9)).setCell ⟨ob, 3, none⟩ (.slice b9 ts9.length d9)) := ⟨_, rfl⟩
     rw [← hw10] at hS10 HTT HSO9 HZ
     rw [← hw10]
     clear hw10 hS10
     rcases HPR.out with ⟨hc9, hno⟩ | ⟨hc9, hpu, hpi, e1, e2, e3⟩
     ·have hcb : (code9 != 0) = true := by simpa using hc9
      have HF : Hid (SaveR wd room its ts s now 0 0 [] [] code9) := hid (.inr ⟨HOK.out, code9, [], HSV.out _ _ (.inr ⟨hc9, rfl, k, a, hlt, HTO.out, by rw [← HTK.out]; exact hno⟩), rfl, .inl ⟨hc9, rfl, rfl, rfl, rfl⟩⟩)
      have Z10 := HTT.out.blk HZR.out (fun e => by have e' : w.heap.size + 1 = ob := e; omega)
      have B10 : Below w.heap.size w w10 := HBW.out.trans (HTT.out.below (by omega) (fun b e => by have e' : b = ob := e; omega))
      have s9 := Z10.store4 (.int .i64 0) (.int .i64 0) (.slice none 0 0) (.slice none 0 0)
      have s0 := s9.a0; have s1 := s9.a1; have s2 := s9.a2; have s3 := s9.a3
      have k0 := s9.f0; have k1 := s9.f1; have k2 := s9.f2; have k3 := s9.f3
      have ZZ := hid s9.z
      have BB := hid ((((B10.setCell (p := ⟨w.heap.size + 1, 0, none⟩) (by simp) (.int .i64 0)).setCell (p := ⟨w.heap.size + 1, 1, none⟩) (by simp) (.int .i64 0)).setCell (p := ⟨w.heap.size + 1, 2, none⟩) (by simp) (.slice none 0 0)).setCell (p := ⟨w.heap.size + 1, 3, none⟩) (by simp) (.slice none 0 0))
      clear s9
      clear hno Z10 B10
      go_simp
      go_wp2
      refine bodyPost_ret (v := .tuple #[.agg #[.int .i64 0, .int .i64 0, .slice none 0 0, .slice none 0 0], .int .i64 code9]) (by simp [results, Tryz.results6, go_sem, ZZ.out.cell]) rfl ⟨0, 0, [], [], code9, _, _, rfl, HF.out, StoreOwn.none _ _, BB.out⟩
     ·subst hc9
      have f1 := e1.symm; subst f1; have f2 := e2.symm; subst f2
      clear e1 e2
      have f3 := e3.symm; subst f3
      clear e3
      have HST := hid (PutTo.step HTO.out hlt (by rw [← HTK.out]; exact hpu) (by rw [← HTK.out]; exact hpi))
      clear hpu hpi
      go_simp
      go_wp2
      exact ⟨⟨rfl, k + 1, its9, _, _, by go_num, by omega, HST.out, HZ.out, HSO9.out, HBT.out.trans HTT.out (fun _ _ h => h)⟩, by simp [intOf]; omega⟩
    ·have hkx : k = xs.length := by omega
     have HF : Hid (SaveR wd room its ts s now wd room a t1 0) := hid (.inr ⟨HOK.out, 0, a, HSV.out _ _ (.inl ⟨rfl, by rw [← hkx]; exact HTO.out⟩), rfl, .inr ⟨rfl, rfl, rfl, rfl, HT1.out⟩⟩)
     have s9 := HZR.out.store4 (.int .i64 wd) (.int .i64 room) (.slice va a.length vc) (.slice vb t1.length vd)
     have s0 := s9.a0; have s1 := s9.a1; have s2 := s9.a2; have s3 := s9.a3
     have k0 := s9.f0; have k1 := s9.f1; have k2 := s9.f2; have k3 := s9.f3
     have ZZ := hid s9.z
     have BB := hid ((((HBW.out.setCell (p := ⟨w.heap.size + 1, 0, none⟩) (by simp) (.int .i64 wd)).setCell (p := ⟨w.heap.size + 1, 1, none⟩) (by simp) (.int .i64 room)).setCell (p := ⟨w.heap.size + 1, 2, none⟩) (by simp) (.slice va a.length vc)).setCell (p := ⟨w.heap.size + 1, 3, none⟩) (by simp) (.slice vb t1.length vd))
     have GG := fun (x : World) (j : Nat) (y : Value) => grownBy_setCellAt x (w.heap.size + 1) j y
     have SO4 := hid ((((HSO.out.kept (GG _ 0 (.int .i64 wd)) (by omega)).kept (GG _ 1 (.int .i64 room)) (by omega)).kept (GG _ 2 (.slice va a.length vc)) (by omega)).kept (GG _ 3 (.slice vb t1.length vd)) (by omega))
     have q0 : wr.cell? ⟨ob, 0, none⟩ = some (.int .i64 wd) := HOX.out.cell 0
     have q1 : wr.cell? ⟨ob, 1, none⟩ = some (.int .i64 room) := HOX.out.cell 1
     have q2 : wr.cell? ⟨ob, 2, none⟩ = some (.slice va a.length vc) := HOX.out.cell 2
     have q3 : wr.cell? ⟨ob, 3, none⟩ = some (.slice vb t1.length vd) := HOX.out.cell 3
     have hki : ¬ ((k : Nat) : Int) < ((xs.length : Nat) : Int) := by omega
     clear s9 GG hkx hlt
     go_wp2
     exact bodyPost_ret (v := .tuple #[.agg #[.int .i64 wd, .int .i64 room, .slice va a.length vc, .slice vb t1.length vd], .int .i64 0]) (by simp [results, Tryz.results6, go_sem, ZZ.out.cell]) rfl ⟨wd, room, a, t1, 0, _, _, rfl, HF.out, SO4.out, BB.out⟩
end Go.Proofs.YtkjdabnglcabiaaGreatDoor
