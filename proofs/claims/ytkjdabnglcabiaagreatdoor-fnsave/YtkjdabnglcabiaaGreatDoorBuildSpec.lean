import Derived.Test.YtkjdabnglcabiaaGreatDoorShort
import Derived.Test.YtkjdabnglcabiaaGreatDoorDigits
import Derived.Test.YtkjdabnglcabiaaGreatDoorFormImpl
import Derived.Test.YtkjdabnglcabiaaGreatDoorNamesLaw
import Derived.Lib.AppendStr
/- The parts of Build: impl.haveSize, impl.haveSums, spec.l3Same. -/
namespace Go.Proofs.YtkjdabnglcabiaaGreatDoor
open Go.RowKit
/-- How many bytes texts have together. -/
def total : List ByteArray → Nat
 | [] => 0
 | p :: ps => p.size + total ps
theorem total_append : ∀ (a b : List ByteArray), total (a ++ b) = total a + total b
 | [], b => by simp [total]
 | p :: a, b => by simp [total, total_append a b]; omega
theorem total_take (ps : List ByteArray) (k : Nat) (h : k < ps.length) : total (ps.take (k + 1)) = total (ps.take k) + (ps.getD k ByteArray.empty).size := by
 rw [List.take_add_one, total_append, List.getElem?_eq_getElem h]
 simp [total, h]
theorem total_le (ps : List ByteArray) (k : Nat) : total (ps.take k) ≤ total ps := by
 have := total_append (ps.take k) (ps.drop k)
 rw [List.take_append_drop] at this
 omega
theorem map_eq_iff {ps ss : List ByteArray} {f : ByteArray → ByteArray} (hl : ps.length = ss.length) (h : ∀ i, i < ps.length → f (ps.getD i ByteArray.empty) = ss.getD i ByteArray.empty) : ps.map f = ss := by
 apply List.ext_getElem (by simpa using hl)
 intro i h1 h2
 have := h i (by simpa using h1)
 rw [List.getD_eq_getElem?_getD, List.getD_eq_getElem?_getD, List.getElem?_eq_getElem (by simpa using h1), List.getElem?_eq_getElem h2] at this
 simpa using this
theorem map_ne_at {ps ss : List ByteArray} {f : ByteArray → ByteArray} (i : Nat) (hi : i < ps.length) (h : f (ps.getD i ByteArray.empty) ≠ ss.getD i ByteArray.empty) : ps.map f ≠ ss := by
 rintro rfl
 apply h
 rw [List.getD_eq_getElem?_getD, List.getD_eq_getElem?_getD, List.getElem?_eq_getElem hi, List.getElem?_map, List.getElem?_eq_getElem hi]
 rfl
set_option maxRecDepth 100000 in
set_option maxHeartbeats 400000 in
theorem haveSize_any (v : Value) (ps : List ByteArray) (n : Int) (w : World) (hv : Reads w v ps) (hl : ps.length ≤ maxLen) (hsz : ∀ i, (ps.getD i ByteArray.empty).size ≤ maxLen) (h0 : 0 ≤ n) (h3 : n ≤ 3000) :
  Calls Tryz.prog 205 #[v, .int .i64 n] w fun e w' => e = .returned (.bool (decide ((total ps : Int) = n))) ∧ w' = w := by
 unfold maxLen at hl
 obtain ⟨a, ca, rfl, hca⟩ := hv.form
 obtain ⟨B, hB⟩ : ∃ B, B = decide ((total ps : Int) = n) := ⟨_, rfl⟩
 rw [← hB]
 have HB := hid hB
 clear hB
 go_enter Tryz.func205, Tryz.ntmps205
 go_wp2
 go_loopw [5, 11] (fun l i wr => ∃ k : Nat, k ≤ ps.length ∧ i = .int .i64 k ∧ l = .int .i64 (n - total (ps.take k)) ∧ (total (ps.take k) : Int) ≤ n ∧ wr = w) (fun _ i _ => ps.length - (intOf i).toNat)
 case atStart => exact ⟨0, Nat.zero_le _, rfl, by simp [total], by simpa [total] using h0, rfl⟩
 case round =>
  obtain ⟨k, hk, rfl, rfl, hle, rfl⟩ := hrel
  by_cases hlt : k < ps.length
  ·obtain ⟨b1, o1, rfl, hb1, hc1⟩ := hca k hlt
   have ht := total_take ps k hlt
   have hle2 := total_le ps (k + 1)
   have hz := hsz k
   unfold maxLen at hz
   obtain ⟨t, hT⟩ : ∃ t : Nat, t = total (ps.take k) := ⟨_, rfl⟩
   by_cases hm : ((ps.getD k ByteArray.empty).size : Int) ≤ n - total (ps.take k)
   ·have HT : Hid (total (ps.take (k + 1)) = t + (ps.getD k ByteArray.empty).size) := by rw [hT]; exact ht
    rw [← hT] at hm hle ⊢
    clear ht hle2 hca hT
    generalize ps.getD k ByteArray.empty = p at *
    go_wp2
    go_roundw
    case rel => exact ⟨k + 1, by omega, by go_num, by rw [HT.out]; go_num, by rw [HT.out]; omega, trivial⟩
    case measure => simp [intOf]; omega
   ·have HF : Hid (decide ((total ps : Int) = n) = false) := by
     show _ = _
     rw [decide_eq_false_iff_not]; omega
    rw [← hT] at hm hle ⊢
    clear ht hle2 hca hT
    generalize ps.getD k ByteArray.empty = p at *
    go_wp2
    go_ret
    exact ⟨by rw [HB.out, HF.out]; rfl, rfl⟩
  ·obtain rfl : k = ps.length := by omega
   rw [List.take_length] at *
   have HF : Hid (decide ((total ps : Int) = n) = (n - total ps == 0)) := by
    show _ = _
    by_cases h : (total ps : Int) = n
    ·simp [h]
    ·rw [decide_eq_false h]; symm; simp; omega
   clear hca
   generalize total ps = t at *
   go_wp2
   go_ret
   exact ⟨by rw [HB.out, HF.out]; rfl, rfl⟩
theorem beq_text (s t : ByteArray) : (s.toList == t.toList) = decide (s = t) := by
 by_cases h : s = t
 ·subst h; simp
 ·rw [decide_eq_false h, beq_eq_false_iff_ne]
  rcases s with ⟨⟨a⟩⟩
  rcases t with ⟨⟨b⟩⟩
  intro e
  rw [ByteArray.toList_mk, ByteArray.toList_mk] at e
  exact h (by rw [e])
set_option maxRecDepth 100000 in
set_option maxHeartbeats 1000000 in
theorem haveSums_any (vp vs : Value) (ps ss : List ByteArray) (m : Int) (w : World) (hp : Reads w vp ps) (hs : Reads w vs ss) (hl : ps.length ≤ maxLen) (hl' : ss.length ≤ maxLen) (hsz : ∀ i, (ps.getD i ByteArray.empty).size ≤ maxLen) :
  Calls Tryz.prog 206 #[vp, vs, .int .i64 m] w fun e w' => e = .returned (.bool (decide (ps.map (sumT m) = ss))) ∧ Below w.heap.size w w' := by
 have HSZ := hid hsz
 unfold maxLen at hl hl'
 obtain ⟨a, ca, rfl, hca⟩ := hp.form
 obtain ⟨b, cb, rfl, hcb⟩ := hs.form
 clear hsz
 by_cases hlen : ps.length = ss.length
 ·obtain ⟨B, hB⟩ : ∃ B, B = decide (ps.map (sumT m) = ss) := ⟨_, rfl⟩
  rw [← hB]
  have HB := hid hB
  have HLEN := hid hlen
  have hcb' : ∀ i, i < ps.length → ∃ b' off, b = some ⟨b', off, none⟩ ∧ b' < w.heap.size ∧ w.cell? ⟨b', off + i, none⟩ = some (.string (ss.getD i ByteArray.empty)) := fun i hi => hcb i (by omega)
  rw [← hlen]
  clear hB hcb hlen hs hp
  go_enter Tryz.func206, Tryz.ntmps206
  go_wp2
  go_loopw [16] (fun i wr => ∃ k : Nat, k ≤ ps.length ∧ i = .int .i64 k ∧ (∀ j, j < k → sumT m (ps.getD j ByteArray.empty) = ss.getD j ByteArray.empty) ∧ Below w.heap.size w wr) (fun i _ => ps.length - (intOf i).toNat)
  case atStart => exact ⟨0, Nat.zero_le _, rfl, fun j hj => absurd hj (by omega), Below.refl _ _⟩
  case round =>
   obtain ⟨k, hk, rfl, hall, hbl⟩ := hrel
   by_cases hlt : k < ps.length
   ·obtain ⟨b1, o1, rfl, hb1, hc1⟩ := hca k hlt
    obtain ⟨b2, o2, rfl, hb2, hc2⟩ := hcb' k hlt
    have hd1 := (hbl.cell (p := ⟨b1, o1 + k, none⟩) hb1).trans hc1
    have hd2 := (hbl.cell (p := ⟨b2, o2 + k, none⟩) hb2).trans hc2
    have HSk := hid fun W => implSum_any (ps.getD k ByteArray.empty) m W (HSZ.out k)
    change Hid (∀ W, Calls Tryz.prog 41 #[.string (ps.getD k ByteArray.empty), .int .i64 m] W fun e w' => e = .returned (.string (sumT m (ps.getD k ByteArray.empty))) ∧ Below W.heap.size W w') at HSk
    have HA : Hid (sumT m (ps.getD k ByteArray.empty) = ss.getD k ByteArray.empty → ∀ j, j < k + 1 → sumT m (ps.getD j ByteArray.empty) = ss.getD j ByteArray.empty) := fun h j hj => by
     rcases Nat.lt_succ_iff_lt_or_eq.1 hj with h' | rfl
     ·exact hall j h'
     ·exact h
    have HF : Hid (sumT m (ps.getD k ByteArray.empty) ≠ ss.getD k ByteArray.empty → decide (ps.map (sumT m) = ss) = false) := fun h => by
     rw [decide_eq_false_iff_not]; exact map_ne_at k hlt h
    have hlw : b2 < wr.heap.size := Nat.lt_of_lt_of_le hb2 hbl.size
    have HBL := hid hbl
    clear hall hca hcb' hc1 hc2 hbl
    generalize ps.getD k ByteArray.empty = p at *
    generalize ss.getD k ByteArray.empty = q at *
    go_wp2_with fail
    have hl0 : (0 : Int) ≤ (k : Int) := by omega
    have hl1 : (k : Int) < (ps.length : Int) := by omega
    refine wp_region_held (S := fun w' => w'.cell? ⟨b2, o2 + k, none⟩ = some (.string q)) (by kernel_rfl) ?_
    change wpAnyH _ _ _ _ _ _ _ _ (World.drew _)
    have hS0 : wr.drew.cell? ⟨b2, o2 + k, none⟩ = some (.string q) := hd2
    refine tkA 0 (.string p) rfl hS0 ?_
    refine tkA 1 (.int .i64 m) rfl hS0 ?_
    refine tkA 3 (.slice (some ⟨b2, o2, none⟩) ps.length cb) rfl hS0 ?_
    refine tkA 4 (.int .i64 k) rfl hS0 ?_
    refine tkA 5 (.pointer (some ⟨b2, o2 + k, none⟩)) rfl hS0 ?_
    refine tkA 6 (.string q) rfl hS0 ?_
    have hec := enters_of Tryz.func41 (by kernel_rfl) rfl
    refine held_one 2 (by kernel_rfl) (op_calls (f := 41) (args := #[.string p, .int .i64 m]) rfl rfl (by go_simp) (HSk.out _) ?_)
    rintro e w3 ⟨rfl, hb3⟩
    have hb3' : Below wr.heap.size wr w3 := ⟨hb3.os, hb3.tape, hb3.output, hb3.size, hb3.block⟩
    have hd3 := (hb3'.cell (p := ⟨b2, o2 + k, none⟩) hlw).trans hd2
    have HB3 := hid (HBL.out.trans (hb3'.mono HBL.out.size))
    clear hb3 hb3'
    refine ⟨_, rfl, hd3, ?_⟩
    cases hx : ((sumT m p).toList == q.toList) with
    | true =>
     have HE : Hid (sumT m p = q) := by
      show sumT m p = q
      rw [beq_text] at hx; exact of_decide_eq_true hx
     refine held_one 7 (by kernel_rfl) (op_value (v := .bool false) (w' := w3) rfl rfl (by go_simp) ⟨hd3, wpAnyH_done (by kernel_rfl) ?_ _⟩)
     clear hx
     go_simp
     go_wp2
     go_roundw
     case rel => exact ⟨k + 1, by omega, by go_num, HA.out HE.out, HB3.out⟩
     case measure => simp [intOf]; omega
    | false =>
     have HE : Hid (sumT m p ≠ q) := by
      show sumT m p ≠ q
      rw [beq_text] at hx; exact of_decide_eq_false hx
     refine held_one 7 (by kernel_rfl) (op_value (v := .bool true) (w' := w3) rfl rfl (by go_simp) ⟨hd3, wpAnyH_done (by kernel_rfl) ?_ _⟩)
     clear hx
     go_simp
     go_wp2
     go_ret
     exact ⟨by rw [HB.out, HF.out HE.out]; rfl, HB3.out⟩
   ·obtain rfl : k = ps.length := by omega
    have HF : Hid (decide (ps.map (sumT m) = ss) = true) := decide_eq_true (map_eq_iff HLEN.out hall)
    have HBL := hid hbl
    clear hall hbl hca hcb'
    go_wp2
    go_ret
    exact ⟨by rw [HB.out, HF.out]; rfl, HBL.out⟩
 ·have e : decide (ps.map (sumT m) = ss) = false := by
   rw [decide_eq_false_iff_not]; rintro rfl; simp at hlen
  rw [e]; clear e
  have hlen' : ¬ ((ps.length : Int) = (ss.length : Int)) := by omega
  go_enter Tryz.func206, Tryz.ntmps206
  go_wp2
  go_ret
  exact ⟨rfl, Below.refl _ _⟩
end Go.Proofs.YtkjdabnglcabiaaGreatDoor
/- spec.l3Same and slices.Equal: two lists are the same. -/
namespace Go.Proofs.YtkjdabnglcabiaaGreatDoor
open Go.RowKit
theorem list_eq_at {xs ys : List ByteArray} (hl : xs.length = ys.length) (h : ∀ i, i < xs.length → xs.getD i ByteArray.empty = ys.getD i ByteArray.empty) : xs = ys := by
 have := map_eq_iff (f := id) hl h
 rwa [List.map_id] at this
theorem list_ne_at {xs ys : List ByteArray} (i : Nat) (h : xs.getD i ByteArray.empty ≠ ys.getD i ByteArray.empty) : xs ≠ ys := by
 rintro rfl; exact h rfl
set_option maxRecDepth 100000 in
set_option maxHeartbeats 1000000 in
theorem slicesEqual_any (va vb : Value) (xs ys : List ByteArray) (w : World) (ha : Reads w va xs) (hb : Reads w vb ys) (hl : xs.length ≤ maxLen) (hl' : ys.length ≤ maxLen) :
  Calls Tryz.prog 207 #[va, vb] w fun e w' => e = .returned (.bool (decide (xs = ys))) ∧ ∃ q, w' = w.drewN q := by
 unfold maxLen at hl hl'
 obtain ⟨a, ca, rfl, hca⟩ := ha.form
 obtain ⟨b, cb, rfl, hcb⟩ := hb.form
 obtain ⟨B, hB⟩ : ∃ B, B = decide (xs = ys) := ⟨_, rfl⟩
 rw [← hB]
 have HB := hid hB
 clear hB ha hb
 by_cases hlen : xs.length = ys.length
 ·have HLEN := hid hlen
  have hcb' : ∀ i, i < xs.length → ∃ b' off, b = some ⟨b', off, none⟩ ∧ b' < w.heap.size ∧ w.cell? ⟨b', off + i, none⟩ = some (.string (ys.getD i ByteArray.empty)) := fun i hi => hcb i (by omega)
  rw [← hlen]
  clear hcb hlen
  go_enter Tryz.func207, Tryz.ntmps207
  go_wp2
  go_loopw [13] (fun i wr => ∃ k : Nat, k ≤ xs.length ∧ i = .int .i64 k ∧ (∀ j, j < k → xs.getD j ByteArray.empty = ys.getD j ByteArray.empty) ∧ ∃ q, wr = w.drewN q) (fun i _ => xs.length - (intOf i).toNat)
  case atStart => exact ⟨0, Nat.zero_le _, rfl, fun j hj => absurd hj (by omega), 0, rfl⟩
  case round =>
   obtain ⟨k, hk, rfl, hall, q, rfl⟩ := hrel
   by_cases hlt : k < xs.length
   ·obtain ⟨b1, o1, rfl, hb1, hd1⟩ := hca k hlt
    obtain ⟨b2, o2, rfl, hb2, hd2⟩ := hcb' k hlt
    have HA : Hid (xs.getD k ByteArray.empty = ys.getD k ByteArray.empty → ∀ j, j < k + 1 → xs.getD j ByteArray.empty = ys.getD j ByteArray.empty) := fun h j hj => by
     rcases Nat.lt_succ_iff_lt_or_eq.1 hj with h' | rfl
     ·exact hall j h'
     ·exact h
    have HF : Hid (xs.getD k ByteArray.empty ≠ ys.getD k ByteArray.empty → decide (xs = ys) = false) := fun h => by
     rw [decide_eq_false_iff_not]; exact list_ne_at k h
    clear hall hca hcb'
    generalize xs.getD k ByteArray.empty = s at *
    generalize ys.getD k ByteArray.empty = t at *
    cases hx : (s.toList == t.toList) with
    | true =>
     have HE : Hid (s = t) := by
      show s = t
      rw [beq_text] at hx; exact of_decide_eq_true hx
     go_wp2
     go_quiet (fail)
     go_wp2
     refine ⟨⟨k + 1, by omega, by go_num, HA.out HE.out, _, rfl⟩, by simp [intOf]; omega⟩
    | false =>
     have HE : Hid (s ≠ t) := by
      show s ≠ t
      rw [beq_text] at hx; exact of_decide_eq_false hx
     go_wp2
     go_quiet (fail)
     go_wp2
     go_ret
     exact ⟨by rw [HB.out, HF.out HE.out]; rfl, _, World.drewN_drewN _ _ _⟩
   ·obtain rfl : k = xs.length := by omega
    have HF : Hid (decide (xs = ys) = true) := decide_eq_true (list_eq_at HLEN.out hall)
    clear hall hca hcb'
    go_wp2
    go_ret
    exact ⟨by rw [HB.out, HF.out]; rfl, _, rfl⟩
 ·have hlen' : ¬ ((xs.length : Int) = (ys.length : Int)) := by omega
  have HF : Hid (decide (xs = ys) = false) := by
   show _ = _
   rw [decide_eq_false_iff_not]; rintro rfl; exact hlen rfl
  clear hca hcb
  go_enter Tryz.func207, Tryz.ntmps207
  go_wp2
  go_ret
  exact ⟨by rw [HB.out, HF.out]; rfl, 0, rfl⟩
end Go.Proofs.YtkjdabnglcabiaaGreatDoor
/- impl.Build puts pieces together. -/
namespace Go.Proofs.YtkjdabnglcabiaaGreatDoor
open Go.RowKit
/-- The bytes of texts, one behind the other. -/
def catL (ps : List ByteArray) : List UInt8 := ps.flatMap fun p => p.data.toList
def catB (ps : List ByteArray) : ByteArray := ⟨(catL ps).toArray⟩
theorem catL_len : ∀ ps : List ByteArray, (catL ps).length = total ps
 | [] => rfl
 | p :: ps => by
  have := catL_len ps
  unfold catL at this ⊢
  rw [List.flatMap_cons, List.length_append, this, Array.length_toList]
  rfl
theorem catB_size (ps : List ByteArray) : (catB ps).size = total ps := by
 show (catL ps).toArray.size = _
 rw [List.size_toArray, catL_len]
theorem catL_take (ps : List ByteArray) (k : Nat) (h : k < ps.length) : catL (ps.take (k + 1)) = catL (ps.take k) ++ (ps.getD k ByteArray.empty).data.toList := by
 unfold catL
 rw [List.take_add_one, List.flatMap_append, List.getElem?_eq_getElem h]
 simp [h]
theorem cells_take (ps : List ByteArray) (k : Nat) (h : k < ps.length) : Lib.byteCells (catL (ps.take (k + 1))) = Lib.byteCells (catL (ps.take k)) ++ Lib.strCells (ps.getD k ByteArray.empty) := by
 rw [catL_take ps k h]
 unfold Lib.byteCells Lib.strCells
 rw [List.map_append]
def buildOk (n : Int) (ss ps : List ByteArray) (m : Int) : Bool := okL n ss m && (decide ((total ps : Int) = n) && (decide (ps.map (sumT m) = ss) && decide (descS (catB ps) m = ss)))
def buildR (n : Int) (ss ps : List ByteArray) (m : Int) : Value := if buildOk n ss ps m then .tuple #[.string (catB ps), .bool true] else .tuple #[.string ⟨#[]⟩, .bool false]
theorem okL_size {n : Int} {ss : List ByteArray} {m : Int} (h : okL n ss m = true) : 0 ≤ n ∧ n ≤ 3000 := by
 unfold okL at h
 simp only [Bool.and_eq_true] at h
 exact of_decide_eq_true h.2.1
theorem run_sums (x y : Value) (W : World) : (Instr.field 54 (.agg #[x, y]) 1).run Tryz.prog W = .ok y W := by kernel_rfl
set_option maxRecDepth 100000 in
set_option maxHeartbeats 2000000 in
theorem implBuild_any (n : Int) (vs vp : Value) (ss ps : List ByteArray) (m : Int) (w : World) (hs : Reads w vs ss) (hp : Reads w vp ps) (hl : ss.length ≤ maxLen) (hl' : ps.length ≤ maxLen) (hsz : ∀ i, (ss.getD i ByteArray.empty).size ≤ maxLen) (hsz' : ∀ i, (ps.getD i ByteArray.empty).size ≤ maxLen) :
  Calls Tryz.prog 204 #[.agg #[.int .i64 n, vs], vp, .int .i64 m] w fun e w' => e = .returned (buildR n ss ps m) ∧ Below w.heap.size w w' := by
 have hl2 : ps.length ≤ 9223372036854775807 := hl'
 have hnew : LBox (w.alloc (.cells #[.int .i64 n, vs] 54)) w.heap.size n vs := World.alloc_heap_new w _
 have hb0 := (Below.refl w.heap.size w).alloc (Nat.le_refl _) (.cells #[.int .i64 n, vs] 54)
 have HOK := hid (isList_any n vs ss m _ (hs.below hb0) hl hsz)
 have hs0 := hs.below hb0
 have hp0 := hp.below hb0
 obtain ⟨a, ca, rfl, _⟩ := hs.form
 obtain ⟨b, cb, rfl, _⟩ := hp.form
 have HS0 := hid hs0
 have HP0 := hid hp0
 have HNEW := hid hnew
 have HB0 := hid hb0
 clear hs hp hs0 hp0 hnew hb0
 cases hok : okL n ss m with
 | false =>
  have e : buildR n ss ps m = .tuple #[.string ⟨#[]⟩, .bool false] := by simp [buildR, buildOk, hok]
  rw [e]; clear e
  rw [hok] at HOK
  go_enter Tryz.func204, Tryz.ntmps204
  go_wp2_with (go_at_call 74; refine HOK.out.mono ?_; rintro e w1 ⟨rfl, hb1⟩)
  go_ret2
  exact ⟨rfl, HB0.out.trans (hb1.mono (by simp))⟩
 | true =>
  obtain ⟨h0, h3⟩ := okL_size hok
  rw [hok] at HOK
  have HZ := hid fun W (h : Reads W (.slice b ps.length cb) ps) => haveSize_any (.slice b ps.length cb) ps n W h hl' hsz' h0 h3
  by_cases ht : (total ps : Int) = n
  ·rw [decide_eq_true ht] at HZ
   have HU := hid fun W (h : Reads W (.slice b ps.length cb) ps) (h' : Reads W (.slice a ss.length ca) ss) => haveSums_any (.slice b ps.length cb) (.slice a ss.length ca) ps ss m W h h' hl' hl hsz'
   by_cases hu : ps.map (sumT m) = ss
   ·rw [decide_eq_true hu] at HU
    obtain ⟨r, hr⟩ : ∃ r, r = buildR n ss ps m := ⟨_, rfl⟩
    rw [← hr]
    have HRR := hid hr
    clear hr
    go_enter Tryz.func204, Tryz.ntmps204
    go_wp2_with fail
    refine HOK.out.mono ?_
    rintro e w1 ⟨rfl, hb1⟩
    have x1 := HNEW.out.below hb1
    have hc0 := x1.c0
    have hc1 := x1.c1
    have HS1 := hid (HS0.out.below hb1)
    have HP1 := hid (HP0.out.below hb1)
    have HB1 := hid (HB0.out.trans (hb1.mono (by simp)))
    have HX1 := hid x1
    clear hb1 x1 HS0 HP0 HB0 HNEW HOK
    go_wp2_with fail
    refine (HZ.out _ HP1.out).mono ?_
    rintro e w1' ⟨rfl, rfl⟩
    go_wp2_with fail
    refine (HU.out _ HP1.out HS1.out).mono ?_
    rintro e w2 ⟨rfl, hb2⟩
    have x2 := HX1.out.below hb2
    have HS2 := hid (HS1.out.below hb2)
    have HP2 := hid (HP1.out.below hb2)
    have HB2 := hid (HB1.out.trans (hb2.mono HB1.out.size))
    have hz2 : w.heap.size < w2.heap.size := x2.lt
    have HX2 := hid x2
    have HD0 := hid (Lib.fresh_isBuilder 115 5 w2)
    clear hb2 x2 HS1 HP1 HB1 HX1 HZ HU hc0 hc1
    go_wp2
    go_loopw [33] (fun i wr => ∃ k : Nat, k ≤ ps.length ∧ i = .int .i64 k ∧ Lib.IsBuilder 115 5 w2.heap.size w2.heap.size (Lib.byteCells (catL (ps.take k))) wr ∧ Below w2.heap.size w2 wr) (fun i _ => ps.length - (intOf i).toNat)
    case atStart => exact ⟨0, Nat.zero_le _, rfl, HD0.out, (Below.refl _ _).alloc (Nat.le_refl _) _⟩
    case round =>
     obtain ⟨k, hk, rfl, hbd, hbl⟩ := hrel
     by_cases hlt : k < ps.length
     ·obtain ⟨_, _, e1, hcb⟩ := (HP2.out.below hbl).form
      simp only [Value.slice.injEq] at e1
      obtain ⟨rfl, _, rfl⟩ := e1
      obtain ⟨b1, o1, rfl, hb1, hd1⟩ := hcb k hlt
      have hcl : (Lib.byteCells (catL (ps.take k))).length + (ps.getD k ByteArray.empty).size ≤ 140737488355328 := by
       rw [Lib.byteCells_length, catL_len]
       have := total_take ps k hlt
       have := total_le ps (k + 1)
       omega
      have HW := hid (writeString_any w2.heap.size w2.heap.size _ _ wr hbd hcl hbl.size)
      rw [← cells_take ps k hlt] at HW
      have HBL := hid hbl
      clear hcb hcl hbd hbl
      generalize ps.getD k ByteArray.empty = p at *
      go_wp2_with fail
      refine HW.out.mono ?_
      rintro e w3 ⟨rfl, hbd3, hb3⟩
      have HBD3 := hid hbd3
      have HB3 := hid (HBL.out.trans (hb3.mono (Nat.le_refl _)))
      clear hbd3 hb3
      go_wp2
      go_roundw
      case rel => exact ⟨k + 1, by omega, by go_num, .inr HBD3.out, HB3.out⟩
      case measure => simp [intOf]; omega
     ·obtain rfl : k = ps.length := by omega
      rw [List.take_length] at hbd
      have HW := hid (builderString_any w2.heap.size w2.heap.size _ wr hbd hbl.size)
      have HBL := hid hbl
      clear hbd hbl
      go_wp2_with fail
      refine HW.out.mono ?_
      rintro e w4 ⟨rfl, hb4⟩
      have hb24 := HBL.out.trans hb4
      have x4 := HX2.out.below hb24
      have HX4 := hid x4
      have hc1 := x4.c1
      have HS4 := hid (HS2.out.below hb24)
      have HB4 := hid (HB2.out.trans (hb24.mono HB2.out.size))
      clear hb4 hb24 x4 HBL HW HX2 HS2 HP2 HB2 HD0
      have hdl := descS_len (catB ps) m
      have HI := hid fun W => implDescribe_any (catB ps) m W
      have HE := hid fun W v (h : Reads W v (descS (catB ps) m)) (h' : Reads W (.slice a ss.length ca) ss) => slicesEqual_any v (.slice a ss.length ca) _ ss W h h' (by unfold maxLen; omega) hl
      have HR : Hid (buildR n ss ps m = if descS (catB ps) m = ss then .tuple #[.string (catB ps), .bool true] else .tuple #[.string ⟨#[]⟩, .bool false]) := by
       show _ = _
       unfold buildR buildOk
       rw [hok, decide_eq_true ht, decide_eq_true hu]
       simp
      change Hid (∀ W, Calls Tryz.prog 46 #[.string ⟨(catL ps).toArray⟩, .int .i64 m] W _) at HI
      generalize descS (catB ps) m = ds at *
      generalize descN (catB ps) m = dn at *
      have HCAT : Hid (catB ps = ⟨(catL ps).toArray⟩) := rfl
      have hlw := HX4.out.lt
      clear hok ht hu
      generalize (catL ps) = cl at *
      go_wp2_with fail
      refine wp_region_held (S := fun w' => w'.cell? ⟨w.heap.size, 1, none⟩ = some (.slice a ss.length ca)) (by kernel_rfl) ?_
      change wpAnyH _ _ _ _ _ _ _ _ (World.drew _)
      have hS0 : w4.drew.cell? ⟨w.heap.size, 1, none⟩ = some (.slice a ss.length ca) := hc1
      refine tkA 0 (.string ⟨cl.toArray⟩) rfl hS0 ?_
      refine tkA 1 (.int .i64 m) rfl hS0 ?_
      refine tkA 4 (.pointer (some ⟨w.heap.size, 1, none⟩)) rfl hS0 ?_
      refine tkA 5 (.slice a ss.length ca) rfl hS0 ?_
      have hec := enters_of Tryz.func46 (by kernel_rfl) rfl
      have hee := enters_of Tryz.func207 (by kernel_rfl) rfl
      refine held_one 2 (by kernel_rfl) (op_calls (f := 46) (args := #[.string ⟨cl.toArray⟩, .int .i64 m]) rfl rfl (by go_simp) (HI.out _) ?_)
      rintro e w5 ⟨v5, rfl, hr5, hb5⟩
      have hb5' : Below w4.heap.size w4 w5 := ⟨hb5.os, hb5.tape, hb5.output, hb5.size, hb5.block⟩
      have x5 := HX4.out.below hb5'
      have hc5 := x5.c1
      have HS5 := hid (HS4.out.below hb5')
      have HB5 := hid (HB4.out.trans (hb5'.mono HB4.out.size))
      have HR5 := hid (Reads.of_row hr5)
      obtain ⟨a5, c5, rfl, _⟩ := row_form hr5
      clear hb5 hb5' hr5 x5
      refine ⟨_, rfl, hc5, held_one 3 (by kernel_rfl) (op_value (v := .slice a5 ds.length c5) (w' := w5) rfl rfl (by go_simp; rw [run_sums]; rfl) ⟨hc5, ?_⟩)⟩
      refine held_one 6 (by kernel_rfl) (op_calls (f := 207) (args := #[.slice a5 ds.length c5, .slice a ss.length ca]) rfl rfl (by go_simp) (HE.out _ _ HR5.out HS5.out) ?_)
      rintro e w6 ⟨rfl, q, rfl⟩
      refine ⟨_, rfl, hc5, held_one 7 (by kernel_rfl) (op_value (v := .bool (!decide (ds = ss))) (w' := w5.drewN q) rfl rfl (by go_simp) ⟨hc5, wpAnyH_done (by kernel_rfl) ?_ _⟩)⟩
      by_cases hds : ds = ss
      ·have HRX : Hid (r = .tuple #[.string ⟨cl.toArray⟩, .bool true]) := by
        show _ = _
        rw [HRR.out, HR.out, if_pos hds, HCAT.out]
       rw [decide_eq_true hds]
       clear hds
       go_simp
       go_wp2
       go_ret2
       exact ⟨by rw [HRX.out]; rfl, below_drewN HB5.out _⟩
      ·have HRX : Hid (r = .tuple #[.string ⟨#[]⟩, .bool false]) := by
        show _ = _
        rw [HRR.out, HR.out, if_neg hds]
       rw [decide_eq_false hds]
       clear hds
       go_simp
       go_wp2
       go_ret2
       exact ⟨by rw [HRX.out]; rfl, below_drewN HB5.out _⟩
   ·have e : buildR n ss ps m = .tuple #[.string ⟨#[]⟩, .bool false] := by simp [buildR, buildOk, hu]
    rw [e]; clear e
    rw [decide_eq_false hu] at HU
    go_enter Tryz.func204, Tryz.ntmps204
    go_wp2_with fail
    refine HOK.out.mono ?_
    rintro e w1 ⟨rfl, hb1⟩
    have x1 := HNEW.out.below hb1
    have hc0 := x1.c0
    have hc1 := x1.c1
    have HS1 := hid (HS0.out.below hb1)
    have HP1 := hid (HP0.out.below hb1)
    have HB1 := hid (HB0.out.trans (hb1.mono (by simp)))
    clear hb1 x1 HS0 HP0 HB0 HNEW HOK
    go_wp2_with fail
    refine (HZ.out _ HP1.out).mono ?_
    rintro e w1' ⟨rfl, rfl⟩
    go_wp2_with fail
    refine (HU.out _ HP1.out HS1.out).mono ?_
    rintro e w2 ⟨rfl, hb2⟩
    go_wp2
    go_ret2
    exact ⟨rfl, HB1.out.trans (hb2.mono HB1.out.size)⟩
  ·have e : buildR n ss ps m = .tuple #[.string ⟨#[]⟩, .bool false] := by simp [buildR, buildOk, ht]
   rw [e]; clear e
   rw [decide_eq_false ht] at HZ
   go_enter Tryz.func204, Tryz.ntmps204
   go_wp2_with fail
   refine HOK.out.mono ?_
   rintro e w1 ⟨rfl, hb1⟩
   have x1 := HNEW.out.below hb1
   have hc0 := x1.c0
   have hc1 := x1.c1
   have HP1 := hid (HP0.out.below hb1)
   have HB1 := hid (HB0.out.trans (hb1.mono (by simp)))
   clear hb1 x1 HS0 HP0 HB0 HNEW HOK
   go_wp2_with fail
   refine (HZ.out _ HP1.out).mono ?_
   rintro e w1' ⟨rfl, rfl⟩
   go_wp2
   go_ret2
   exact ⟨rfl, HB1.out⟩
end Go.Proofs.YtkjdabnglcabiaaGreatDoor
/- spec.Build puts pieces together. -/
namespace Go.Proofs.YtkjdabnglcabiaaGreatDoor
open Go.RowKit
end Go.Proofs.YtkjdabnglcabiaaGreatDoor
