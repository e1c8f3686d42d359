import Derived.Test.YtkghbegdjeehaaaGreatDoorPinsDelete
import Derived.Test.YtkghbegdjeehaaaGreatDoorHeapRow
import Derived.Test.YtkghbegdjeehaaaGreatDoorShort
import Derived.Lib.SliceRun
/- Rows cut short; slices.Delete, slices.IndexFunc and slices.DeleteFunc over rows of texts of their own. -/
namespace Go.Proofs.YtkghbegdjeehaaaGreatDoor
open Go.RowKit Go.Shelf
theorem row_cut {w : World} {B g n m cap : Nat} {xs : List Value} (h : w.ownsRow B 9 1 (.slice (some ⟨g, 0, none⟩) n cap) n xs) (hm : m ≤ n) : w.ownsRow B 9 1 (.slice (some ⟨g, 0, none⟩) m cap) m (xs.take m) := by
 obtain ⟨h1, ⟨e, _⟩ | ⟨g', cap', cur, e1, e2, e3, e4, e5, e6, e7⟩⟩ := h
 ·cases e
 ·cases e1
  refine ⟨by rw [List.length_take]; omega, .inr ⟨g, cap, cur, rfl, e2, e3, by omega, e5, e6, ?_⟩⟩
  rw [← e7, List.take_take]
  congr 1
  omega
def setL (xs : List Value) : Nat → List Value → List Value
 | _, [] => xs
 | o, v :: vs => setL (xs.set o v) (o + 1) vs
theorem row_setCells {B g n cap : Nat} : ∀ (vs : List Value) (o : Nat) (w : World) (xs : List Value), w.ownsRow B 9 1 (.slice (some ⟨g, 0, none⟩) n cap) n xs → (w.setCells g o vs).ownsRow B 9 1 (.slice (some ⟨g, 0, none⟩) n cap) n (setL xs o vs)
 | [], _, _, _, h => h
 | v :: vs, o, _, _, h => row_setCells vs (o + 1) _ _ (h.stored o v).1
theorem setL_take : ∀ (vs : List Value) (o k : Nat) (xs : List Value), k ≤ o → (setL xs o vs).take k = xs.take k
 | [], _, _, _, _ => rfl
 | v :: vs, o, k, xs, h => by rw [setL, setL_take vs (o + 1) k _ (by omega), List.take_set_of_le h]
theorem setL_all : ∀ (vs pre xs : List Value), xs.length = vs.length → setL (pre ++ xs) pre.length vs = pre ++ vs
 | [], pre, xs, h => by
  rw [List.length_nil] at h
  rw [List.length_eq_zero_iff.1 h]
  rfl
 | v :: vs, pre, [], h => by simp at h
 | v :: vs, pre, x :: xs, h => by
  have ih := setL_all vs (pre ++ [v]) xs (by simpa using h)
  rw [setL, List.set_append_right _ _ (Nat.le_refl _), Nat.sub_self, List.set_cons_zero]
  rw [List.length_append, List.length_singleton, List.append_assoc] at ih
  simpa using ih
theorem deleteOwn_any (g c i B : Nat) (ts : List ByteArray) (w : World) (hr : w.ownsRow B 9 1 (.slice (some ⟨g, 0, none⟩) ts.length c) ts.length (ts.map Value.string)) (hi : i < ts.length) :
  Calls Tryz.prog 94 #[.slice (some ⟨g, 0, none⟩) ts.length c, .int .i64 i, .int .i64 ((i + 1 : Nat) : Int)] w fun e w' => e = .returned (.slice (some ⟨g, 0, none⟩) (ts.eraseIdx i).length c) ∧ w.grownBy w' (some g) ∧ w'.ownsRow B 9 1 (.slice (some ⟨g, 0, none⟩) (ts.eraseIdx i).length c) (ts.eraseIdx i).length ((ts.eraseIdx i).map Value.string) := by
 have hc : ts.length ≤ c ∧ c ≤ 9223372036854775807 := by
  obtain ⟨_, ⟨e, _⟩ | ⟨g', cap', cur, e1, _, _, e4, e5, _⟩⟩ := hr
  ·cases e
  ·cases e1
   unfold maxLen at e5
   omega
 have hcell : ∀ j, j < ts.length → w.cell? ⟨g, 0 + j, none⟩ = some (.string (tv ts j)) := fun j hj => by
  rw [Nat.zero_add, hr.cellAt j (by omega)]
  simp [tv, hj]
 have h := Any.slices_Delete_string_cells dLays g 0 ts.length c i (i + 1) (tv ts) w hc.1 hc.2 (by omega) (by omega) hcell (fun j _ => hr.frozenAt _)
 refine h.mono ?_
 rintro e w' ⟨rfl, q, rfl⟩
 have hd : Below w.heap.size w (w.drewN q) := below_drewN (Below.refl _ _) q
 have hle : (ts.eraseIdx i).length = ts.length - 1 := by rw [List.length_eraseIdx, if_pos hi]
 have es : Lib.strsOf (tv ts) ts.length = ts.map (·.data.toList) := by
  apply List.ext_getElem?
  intro k
  by_cases hk : k < ts.length
  ·simp [Lib.strsOf, tv, hk]
  ·rw [List.getElem?_eq_none (by simp [Lib.strsOf]; omega), List.getElem?_eq_none (by simp; omega)]
 have el : (((Lib.strsOf (tv ts) ts.length).take i ++ (Lib.strsOf (tv ts) ts.length).drop (i + 1) ++ List.replicate (i + 1 - i) []).map encStr) = (ts.eraseIdx i).map Value.string ++ [.string ⟨#[]⟩] := by
  rw [es, show i + 1 - i = 1 by omega, List.eraseIdx_eq_take_drop_succ]
  simp [encStr, Function.comp_def]
 refine ⟨by rw [hle, show i + 1 - i = 1 by omega], grown_same (grown_below' hd) (grown_setCells g _ 0 _), ?_⟩
 rw [el]
 have h1 := row_setCells ((ts.eraseIdx i).map Value.string ++ [.string ⟨#[]⟩]) 0 (w.drewN q) _ (Below.row hd hr)
 have h2 := setL_all ((ts.eraseIdx i).map Value.string ++ [.string ⟨#[]⟩]) [] (ts.map Value.string) (by simp [hle]; omega)
 rw [List.nil_append, List.nil_append, List.length_nil] at h2
 rw [h2] at h1
 have h3 := row_cut h1 (m := (ts.eraseIdx i).length) (by omega)
 rwa [List.take_append_of_le_length (by simp), List.take_of_length_le (by simp)] at h3
/-- A function that tells of a text whether it goes, and turns nothing. -/
def Picks (C : Nat) (pv : Value) (f : ByteArray → Bool) (g : Nat) (w : World) : Prop := ∀ s W, But (fun k => k = g) w W → Calls Tryz.prog C #[pv, .string s] W fun e w' => e = .returned (.bool (f s)) ∧ Below W.heap.size W w'
set_option maxRecDepth 100000 in
set_option maxHeartbeats 2000000 in
theorem indexFunc_any (C : Nat) (pv v : Value) (f : ByteArray → Bool) (g : Nat) (ts : List ByteArray) (w : World) (eg : ∀ args w, (callFunc C args).run Tryz.prog w = .ok (.enter C args) w) (hr : Reads w v ts) (hl : ts.length ≤ 1000) (hf : Picks C pv f g w) :
  Calls Tryz.prog 107 #[v, .func (.func C) #[pv] #[]] w fun e w' => ∃ r, e = .returned (.int .i64 r) ∧ ((r = -1 ∧ ∀ j, j < ts.length → f (tv ts j) = false) ∨ ∃ k : Nat, k < ts.length ∧ r = (k : Int) ∧ f (tv ts k) = true ∧ ∀ j, j < k → f (tv ts j) = false) ∧ Below w.heap.size w w' := by
 have HR := hid hr
 have HF := hid hf
 obtain ⟨a, ca, rfl, _⟩ := hr.form
 clear hr hf
 go_enter Tryz.func107, Tryz.ntmps107
 go_wp2
 go_loopw [8] (fun i wr => ∃ k : Nat, k ≤ ts.length ∧ i = .int .i64 k ∧ (∀ j, j < k → f (tv ts j) = false) ∧ Below w.heap.size w wr) (fun i _ => ts.length - (intOf i).toNat)
 case atStart => exact ⟨0, Nat.zero_le _, rfl, fun j hj => absurd hj (by omega), Below.refl _ _⟩
 case round =>
  obtain ⟨k, hk, rfl, hno, hb⟩ := hrel
  have HNO := hid hno
  have HB := hid hb
  by_cases hlt : k < ts.length
  case neg =>
   obtain rfl : k = ts.length := by omega
   clear hno hb
   go_wp2
   go_ret
   exact ⟨-1, rfl, .inl ⟨rfl, HNO.out⟩, HB.out⟩
  obtain ⟨a', ca', e', hc⟩ := (HR.out.below hb).form
  cases e'
  obtain ⟨b, o, rfl, hbl, hck⟩ := hc k hlt
  obtain ⟨x, hx⟩ : ∃ x, x = tv ts k := ⟨_, rfl⟩
  have ck : wr.cell? ⟨b, o + k, none⟩ = some (.string x) := by rw [hx]; exact hck
  have HC := hid (HF.out x wr (But.of_below hb))
  have HX := hid hx
  clear hno hb hc hck hx
  go_wp2_with fail
  refine HC.out.mono ?_
  rintro e w1 ⟨rfl, hb1⟩
  have HB1 := hid (HB.out.trans (hb1.mono HB.out.size))
  clear hb1 ck
  cases hfx : f x with
  | true =>
   have HT : Hid (f (tv ts k) = true) := hid (by rw [← HX.out]; exact hfx)
   go_wp2
   go_ret
   exact ⟨(k : Int), rfl, .inr ⟨k, hlt, rfl, HT.out, HNO.out⟩, HB1.out⟩
  | false =>
   have HN : Hid (∀ j, j < k + 1 → f (tv ts j) = false) := hid fun j hj => (Nat.lt_or_eq_of_le (Nat.le_of_lt_succ hj)).elim (HNO.out j) (fun e => by rw [e, ← HX.out]; exact hfx)
   go_wp2
   refine ⟨⟨k + 1, by omega, by go_simp, HN.out, HB1.out⟩, ?_⟩
   simp [intOf]
   omega
end Go.Proofs.YtkghbegdjeehaaaGreatDoor
/- slices.DeleteFunc over a row of texts of its own. -/
namespace Go.Proofs.YtkghbegdjeehaaaGreatDoor
open Go.RowKit Go.Shelf
/-- What a deletion has come to. -/
structure Delt (f : ByteArray → Bool) (ts : List ByteArray) (i j : Nat) (cs : List Value) : Prop where
 lt : i < j
 le : j ≤ ts.length
 len : cs.length = ts.length
 head : cs.take i = ((ts.take j).filter fun s => !f s).map Value.string
 rest : cs.drop j = (ts.drop j).map Value.string
theorem filter_none {f : ByteArray → Bool} {ts : List ByteArray} (h : ∀ j, j < ts.length → f (tv ts j) = false) : (ts.filter fun s => !f s) = ts := by
 rw [List.filter_eq_self]
 intro x hx
 obtain ⟨j, hj, rfl⟩ := List.getElem_of_mem hx
 have := h j hj
 rw [show tv ts j = ts[j] by simp [tv, hj]] at this
 simp [this]
theorem tv_take (ts : List ByteArray) (k j : Nat) (h : j < k) : tv (ts.take k) j = tv ts j := by
 unfold tv
 rw [List.getD_eq_getElem?_getD, List.getD_eq_getElem?_getD, List.getElem?_take_of_lt h]
theorem take_step (ts : List ByteArray) (j : Nat) (h : j < ts.length) : ts.take (j + 1) = ts.take j ++ [tv ts j] := by
 rw [List.take_succ_eq_append_getElem h, show tv ts j = ts[j] by simp [tv, h]]
theorem Delt.start {f : ByteArray → Bool} {ts : List ByteArray} {k : Nat} (hk : k < ts.length) (hx : f (tv ts k) = true) (hn : ∀ j, j < k → f (tv ts j) = false) : Delt f ts k (k + 1) (ts.map Value.string) := by
 refine ⟨by omega, by omega, by simp, ?_, by rw [List.map_drop]⟩
 rw [take_step ts k hk, List.filter_append, filter_none (ts := ts.take k) (fun j hj => by rw [List.length_take] at hj; rw [tv_take ts k j (by omega)]; exact hn j (by omega)), List.map_append, List.map_take]
 simp [hx]
theorem Delt.at {f : ByteArray → Bool} {ts : List ByteArray} {i j : Nat} {cs : List Value} (h : Delt f ts i j cs) (hj : j < ts.length) : cs[j]? = some (.string (tv ts j)) := by
 have h1 := congrArg (fun l => l[0]?) h.rest
 simpa [tv, hj] using h1
theorem Delt.go {f : ByteArray → Bool} {ts : List ByteArray} {i j : Nat} {cs : List Value} (h : Delt f ts i j cs) (hj : j < ts.length) (hx : f (tv ts j) = true) : Delt f ts i (j + 1) cs := by
 have h1 := h.lt
 refine ⟨by omega, by omega, h.len, ?_, ?_⟩
 ·rw [h.head, take_step ts j hj, List.filter_append]
  simp [hx]
 ·have := congrArg (fun l => l.drop 1) h.rest
  simpa [List.drop_drop, Nat.add_comm] using this
theorem Delt.keep {f : ByteArray → Bool} {ts : List ByteArray} {i j : Nat} {cs : List Value} (h : Delt f ts i j cs) (hj : j < ts.length) (hx : f (tv ts j) = false) : Delt f ts (i + 1) (j + 1) (cs.set i (.string (tv ts j))) := by
 have h1 := h.lt
 have h2 := h.len
 refine ⟨by omega, by omega, by rw [List.length_set]; exact h.len, ?_, ?_⟩
 ·rw [List.take_succ_eq_append_getElem (by rw [List.length_set]; omega), List.take_set_of_le (Nat.le_refl _), h.head, take_step ts j hj, List.filter_append, List.map_append]
  simp [hx]
 ·rw [List.drop_set_of_lt (by omega)]
  have := congrArg (fun l => l.drop 1) h.rest
  simpa [List.drop_drop, Nat.add_comm] using this
theorem Delt.done {f : ByteArray → Bool} {ts : List ByteArray} {i : Nat} {cs : List Value} (h : Delt f ts i ts.length cs) : cs.take i = (ts.filter fun s => !f s).map Value.string ∧ (ts.filter fun s => !f s).length = i := by
 have h1 := h.head
 rw [List.take_length] at h1
 refine ⟨h1, ?_⟩
 have h2 := congrArg List.length h1
 have h3 := h.lt
 have h4 := h.len
 simp only [List.length_take, List.length_map] at h2
 omega
/-- What DeleteFunc answers. -/
def DelP (f : ByteArray → Bool) (g c B : Nat) (ts : List ByteArray) (w : World) (e : Ending) (w' : World) : Prop :=
 e = .returned (.slice (some ⟨g, 0, none⟩) (ts.filter fun s => !f s).length c) ∧ w'.ownsRow B 9 1 (.slice (some ⟨g, 0, none⟩) (ts.filter fun s => !f s).length c) (ts.filter fun s => !f s).length ((ts.filter fun s => !f s).map Value.string) ∧ But (fun k => k = g) w w'
set_option maxRecDepth 100000 in
set_option maxHeartbeats 4000000 in
theorem deleteFunc_any (C : Nat) (pv : Value) (f : ByteArray → Bool) (g c B : Nat) (ts : List ByteArray) (w : World) (eg : ∀ args w, (callFunc C args).run Tryz.prog w = .ok (.enter C args) w) (hr : w.ownsRow B 9 1 (.slice (some ⟨g, 0, none⟩) ts.length c) ts.length (ts.map Value.string)) (hl : ts.length ≤ 1000) (hf : Picks C pv f g w) :
  Calls Tryz.prog 89 #[.slice (some ⟨g, 0, none⟩) ts.length c, .func (.func C) #[pv] #[]] w (DelP f g c B ts w) := by
 have HR := hid hr
 have HF := hid hf
 have HIX := hid (indexFunc_any C pv _ f g ts w eg (Reads.of_row hr) hl hf)
 have hgl := (hr.lt g rfl).2
 have hcap : ts.length ≤ c := by
  obtain ⟨_, ⟨e, _⟩ | ⟨g', cap', cur, e1, _, _, e4, _⟩⟩ := hr
  ·cases e
  ·cases e1; omega
 have hcm : c ≤ 9223372036854775807 := by
  obtain ⟨_, ⟨e, _⟩ | ⟨g', cap', cur, e1, _, _, _, e5, _⟩⟩ := hr
  ·cases e
  ·cases e1; unfold maxLen at e5; omega
 have hzv : ∀ W : World, (zeroValue 9).run Tryz.prog W = .ok (.string ⟨#[]⟩) W := fun W => by kernel_rfl
 have HZV := hid hzv
 clear hr hf hzv
 go_enter Tryz.func89, Tryz.ntmps89
 go_wp2_with fail
 refine HIX.out.mono ?_
 rintro e w1 ⟨r, rfl, hcase, hb1⟩
 have HB1 := hid (But.of_below (P := fun k => k = g) hb1)
 have HR1 := hid (Below.row hb1 HR.out)
 clear hb1
 rcases hcase with ⟨rfl, hno⟩ | ⟨k, hk, rfl, hx, hno⟩
 ·have HP : Hid (DelP f g c B ts w (.returned (.slice (some ⟨g, 0, none⟩) ts.length c)) w1) := hid (by
   unfold DelP
   rw [filter_none hno]
   exact ⟨rfl, HR1.out, HB1.out⟩)
  clear hno
  go_wp2
  go_ret
  exact HP.out
 have HD := hid (Delt.start hk hx hno)
 clear hx hno
 have hkm : ((k : Int) == -1) = false := by
  cases e : ((k : Int) == -1) with
  | false => rfl
  | true => rw [beq_iff_eq] at e; omega
 go_wp2
 go_loopw [5, 6] (fun i' j' wr => ∃ (i j : Nat) (cs : List Value), i' = .int .i64 i ∧ j' = .int .i64 j ∧ Delt f ts i j cs ∧ wr.ownsRow B 9 1 (.slice (some ⟨g, 0, none⟩) ts.length c) ts.length cs ∧ But (fun k => k = g) w wr) (fun _ j' _ => ts.length - (intOf j').toNat)
 case atStart => exact ⟨k, k + 1, _, rfl, by go_simp, HD.out, HR1.out, HB1.out⟩
 case round =>
  obtain ⟨i, j, cs, rfl, rfl, hd, hrow, hbt⟩ := hrel
  have HD := hid hd
  have HROW := hid hrow
  have HBT := hid hbt
  have hij := hd.lt
  have hjn := hd.le
  by_cases hlt : j < ts.length
  case neg =>
   obtain rfl : j = ts.length := by omega
   obtain ⟨h1, h2⟩ := hd.done
   have hcl : ∀ ty, (Builtin.clear_ #[23] ty #[.slice (some ⟨g, i, none⟩) (ts.length - i) (c - i)]).run Tryz.prog wr = .ok (.tuple #[]) (wr.setCells g i (List.replicate (ts.length - i) (.string ⟨#[]⟩))) := fun ty => Lib.run_clear_slice wr 23 9 ty _ Tryz.underlying23 HZV.out rfl rfl g i _ _ (by omega) (fun j hj => by rw [hrow.cellAt (i + j) (by omega), List.getElem?_eq_getElem (by rw [hd.len]; omega)]; rfl) (fun j hj => hrow.frozenAt _)
   have R7 := row_cut (row_setCells (List.replicate (ts.length - i) (.string ⟨#[]⟩)) i wr cs hrow) (m := i) (by omega)
   rw [setL_take _ i i _ (Nat.le_refl _), h1] at R7
   have HP : Hid (DelP f g c B ts w (.returned (.slice (some ⟨g, 0, none⟩) i c)) (wr.setCells g i (List.replicate (ts.length - i) (.string ⟨#[]⟩)))) := hid (by
    unfold DelP
    rw [h2]
    exact ⟨rfl, R7, HBT.out.trans (But.of_grown (P := fun k => k = g) (grown_setCells g _ i wr) rfl) (fun _ _ h => h)⟩)
   clear hd hrow hbt R7 h1 h2
   go_wp2
   go_ret
   exact HP.out
  obtain ⟨x, hx⟩ : ∃ x, x = tv ts j := ⟨_, rfl⟩
  have cj : wr.cell? ⟨g, j, none⟩ = some (.string x) := by rw [hx, hrow.cellAt j (by omega)]; exact hd.at hlt
  have HC := hid (HF.out x wr hbt)
  have HX := hid hx
  have hgr := (hrow.lt g rfl).2
  clear hd hrow hbt hx
  go_wp2_with fail
  refine HC.out.mono ?_
  rintro e w2 ⟨rfl, hb2⟩
  have R2 := Below.row hb2 HROW.out
  have HR2 := hid R2
  have HB2 := hid (HBT.out.trans (But.of_below (P := fun _ => False) hb2) (fun _ _ h => h.elim))
  cases hfx : f x with
  | true =>
   have HD2 := hid (HD.out.go hlt (by rw [← HX.out]; exact hfx))
   clear hb2 R2 cj
   go_wp2
   refine ⟨⟨i, j + 1, cs, rfl, by go_simp, HD2.out, HR2.out, HB2.out⟩, ?_⟩
   simp [intOf]
   omega
  | false =>
   have HD2 := hid (HD.out.keep hlt (by rw [← HX.out]; exact hfx))
   rw [← HX.out] at HD2
   have hin : i < ts.length := by omega
   obtain ⟨z, hz⟩ : ∃ z, w2.cell? ⟨g, i, none⟩ = some z := ⟨_, (R2.cellAt i (by omega)).trans (List.getElem?_eq_getElem (by rw [HD.out.len]; omega))⟩
   have fi := R2.frozenAt i
   have HR3 := hid (R2.stored i (.string x)).1
   have HB3 := hid (HB2.out.trans (But.of_grown (P := fun k => k = g) (grownBy_setCellAt w2 g i (.string x)) rfl) (fun _ _ h => h))
   clear hb2 R2 cj
   go_wp2
   refine ⟨⟨i + 1, j + 1, _, by go_simp, by go_simp, HD2.out, HR3.out, HB3.out⟩, ?_⟩
   simp [intOf]
   omega
theorem deleteFunc_nil (C : Nat) (pv : Value) (f : ByteArray → Bool) (w : World) (eg : ∀ args w, (callFunc C args).run Tryz.prog w = .ok (.enter C args) w) (hf : Picks C pv f w.heap.size w) :
  Calls Tryz.prog 89 #[.slice none 0 0, .func (.func C) #[pv] #[]] w fun e w' => e = .returned (.slice none 0 0) ∧ Below w.heap.size w w' := by
 have HIX := hid (indexFunc_any C pv (.slice none 0 0) f w.heap.size [] w eg (.inl ⟨rfl, _, _, rfl⟩) (by simp) hf)
 clear hf
 go_enter Tryz.func89, Tryz.ntmps89
 go_wp2_with fail
 refine HIX.out.mono ?_
 rintro e w1 ⟨r, rfl, hcase, hb1⟩
 rcases hcase with ⟨rfl, _⟩ | ⟨k, hk, _⟩
 ·have HB1 := hid hb1
  clear hb1
  go_wp2
  go_ret
  exact ⟨rfl, HB1.out⟩
 ·exact absurd hk (by simp)
end Go.Proofs.YtkghbegdjeehaaaGreatDoor
