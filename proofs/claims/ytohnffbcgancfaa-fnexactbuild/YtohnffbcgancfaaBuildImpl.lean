/- impl.Build puts pieces together. -/
import Derived.Test.YtohnffbcgancfaaSame
import Derived.Test.YtohnffbcgancfaaBuilder
import Derived.Test.YtohnffbcgancfaaDescImpl
namespace Go.Proofs.Ytohnffbcgancfaa
open Go.RowKit
/-- The bytes of texts, one behind the other. -/
def catL (ps : List ByteArray) : List UInt8 := ps.flatMap fun p => p.data.toList
def catB (ps : List ByteArray) : ByteArray := ⟨(catL ps).toArray⟩
theorem catL_len : ∀ ps : List ByteArray, (catL ps).length = total ps
  | [] => rfl
  | p :: ps => by
    have := catL_len ps
    unfold catL at this ⊢
    rw [List.flatMap_cons, List.length_append, this, Array.length_toList]
    rfl
theorem catB_size (ps : List ByteArray) : (catB ps).size = total ps := by
  show (catL ps).toArray.size = _
  rw [List.size_toArray, catL_len]
theorem catL_take (ps : List ByteArray) (k : Nat) (h : k < ps.length) : catL (ps.take (k + 1)) = catL (ps.take k) ++ (ps.getD k ByteArray.empty).data.toList := by
  unfold catL
  rw [List.take_add_one, List.flatMap_append, List.getElem?_eq_getElem h]
  simp [h]
theorem cells_take (ps : List ByteArray) (k : Nat) (h : k < ps.length) : Lib.byteCells (catL (ps.take (k + 1))) = Lib.byteCells (catL (ps.take k)) ++ Lib.strCells (ps.getD k ByteArray.empty) := by
  rw [catL_take ps k h]
  unfold Lib.byteCells Lib.strCells
  rw [List.map_append]
def buildOk (n : Int) (ss ps : List ByteArray) (m : Int) : Bool := okL n ss m && (decide ((total ps : Int) = n) && (decide (ps.map (sumT m) = ss) && decide (descS (catB ps) m = ss)))
def buildR (n : Int) (ss ps : List ByteArray) (m : Int) : Value := if buildOk n ss ps m then .tuple #[.string (catB ps), .bool true] else .tuple #[.string ⟨#[]⟩, .bool false]
theorem okL_size {n : Int} {ss : List ByteArray} {m : Int} (h : okL n ss m = true) : 0 ≤ n ∧ n ≤ 3000 := by
  unfold okL at h
  simp only [Bool.and_eq_true] at h
  exact of_decide_eq_true h.2.1
theorem run_sums (x y : Value) (W : World) : (Instr.field 42 (.agg #[x, y]) 1).run Try.prog W = .ok y W := by kernel_rfl
set_option maxRecDepth 100000 in
set_option maxHeartbeats 2000000 in
theorem implBuild_any (n : Int) (vs vp : Value) (ss ps : List ByteArray) (m : Int) (w : World) (hs : Reads w vs ss) (hp : Reads w vp ps) (hl : ss.length ≤ maxLen) (hl' : ps.length ≤ maxLen) (hsz : ∀ i, (ss.getD i ByteArray.empty).size ≤ maxLen) (hsz' : ∀ i, (ps.getD i ByteArray.empty).size ≤ maxLen) :
    Calls Try.prog 35 #[.agg #[.int .i64 n, vs], vp, .int .i64 m] w fun e w' => e = .returned (buildR n ss ps m) ∧ Below w.heap.size w w' := by
  have hl2 : ps.length ≤ 9223372036854775807 := hl'
  have hnew : LBox (w.alloc (.cells #[.int .i64 n, vs] 42)) w.heap.size n vs := World.alloc_heap_new w _
  have hb0 := (Below.refl w.heap.size w).alloc (Nat.le_refl _) (.cells #[.int .i64 n, vs] 42)
  have HOK := hid (isList_any n vs ss m _ (hs.below hb0) hl hsz)
  have hs0 := hs.below hb0
  have hp0 := hp.below hb0
  obtain ⟨a, ca, rfl, _⟩ := hs.form
  obtain ⟨b, cb, rfl, _⟩ := hp.form
  have HS0 := hid hs0
  have HP0 := hid hp0
  have HNEW := hid hnew
  have HB0 := hid hb0
  clear hs hp hs0 hp0 hnew hb0
  cases hok : okL n ss m with
  | false =>
    have e : buildR n ss ps m = .tuple #[.string ⟨#[]⟩, .bool false] := by simp [buildR, buildOk, hok]
    rw [e]; clear e
    rw [hok] at HOK
    go_enter Try.func35, Try.ntmps35
    go_wp2_with (go_at_call 53; refine HOK.out.mono ?_; rintro e w1 ⟨rfl, hb1⟩)
    go_ret2
    exact ⟨rfl, HB0.out.trans (hb1.mono (by simp))⟩
  | true =>
    obtain ⟨h0, h3⟩ := okL_size hok
    rw [hok] at HOK
    have HZ := hid fun W (h : Reads W (.slice b ps.length cb) ps) => haveSize_any (.slice b ps.length cb) ps n W h hl' hsz' h0 h3
    by_cases ht : (total ps : Int) = n
    · rw [decide_eq_true ht] at HZ
      have HU := hid fun W (h : Reads W (.slice b ps.length cb) ps) (h' : Reads W (.slice a ss.length ca) ss) => haveSums_any (.slice b ps.length cb) (.slice a ss.length ca) ps ss m W h h' hl' hl hsz'
      by_cases hu : ps.map (sumT m) = ss
      · rw [decide_eq_true hu] at HU
        obtain ⟨r, hr⟩ : ∃ r, r = buildR n ss ps m := ⟨_, rfl⟩
        rw [← hr]
        have HRR := hid hr
        clear hr
        go_enter Try.func35, Try.ntmps35
        go_wp2_with fail
        refine HOK.out.mono ?_
        rintro e w1 ⟨rfl, hb1⟩
        have x1 := HNEW.out.below hb1
        have hc0 := x1.c0
        have hc1 := x1.c1
        have HS1 := hid (HS0.out.below hb1)
        have HP1 := hid (HP0.out.below hb1)
        have HB1 := hid (HB0.out.trans (hb1.mono (by simp)))
        have HX1 := hid x1
        clear hb1 x1 HS0 HP0 HB0 HNEW HOK
        go_wp2_with fail
        refine (HZ.out _ HP1.out).mono ?_
        rintro e w1' ⟨rfl, rfl⟩
        go_wp2_with fail
        refine (HU.out _ HP1.out HS1.out).mono ?_
        rintro e w2 ⟨rfl, hb2⟩
        have x2 := HX1.out.below hb2
        have HS2 := hid (HS1.out.below hb2)
        have HP2 := hid (HP1.out.below hb2)
        have HB2 := hid (HB1.out.trans (hb2.mono HB1.out.size))
        have hz2 : w.heap.size < w2.heap.size := x2.lt
        have HX2 := hid x2
        have HD0 := hid (Lib.fresh_isBuilder 80 5 w2)
        clear hb2 x2 HS1 HP1 HB1 HX1 HZ HU hc0 hc1
        go_wp2
        go_loopw [33] (fun i wr => ∃ k : Nat, k ≤ ps.length ∧ i = .int .i64 k ∧ Lib.IsBuilder 80 5 w2.heap.size w2.heap.size (Lib.byteCells (catL (ps.take k))) wr ∧ Below w2.heap.size w2 wr) (fun i _ => ps.length - (intOf i).toNat)
        case atStart => exact ⟨0, Nat.zero_le _, rfl, HD0.out, (Below.refl _ _).alloc (Nat.le_refl _) _⟩
        case round =>
          obtain ⟨k, hk, rfl, hbd, hbl⟩ := hrel
          by_cases hlt : k < ps.length
          · obtain ⟨_, _, e1, hcb⟩ := (HP2.out.below hbl).form
            simp only [Value.slice.injEq] at e1
            obtain ⟨rfl, _, rfl⟩ := e1
            obtain ⟨b1, o1, rfl, hb1, hd1⟩ := hcb k hlt
            have hcl : (Lib.byteCells (catL (ps.take k))).length + (ps.getD k ByteArray.empty).size ≤ 140737488355328 := by
              rw [Lib.byteCells_length, catL_len]
              have := total_take ps k hlt
              have := total_le ps (k + 1)
              omega
            have HW := hid (writeString_any w2.heap.size w2.heap.size _ _ wr hbd hcl hbl.size)
            rw [← cells_take ps k hlt] at HW
            have HBL := hid hbl
            clear hcb hcl hbd hbl
            generalize ps.getD k ByteArray.empty = p at *
            go_wp2_with fail
            refine HW.out.mono ?_
            rintro e w3 ⟨rfl, hbd3, hb3⟩
            have HBD3 := hid hbd3
            have HB3 := hid (HBL.out.trans (hb3.mono (Nat.le_refl _)))
            clear hbd3 hb3
            go_wp2
            go_roundw
            case rel => exact ⟨k + 1, by omega, by go_num, .inr HBD3.out, HB3.out⟩
            case measure => simp [intOf]; omega
          · obtain rfl : k = ps.length := by omega
            rw [List.take_length] at hbd
            have HW := hid (builderString_any w2.heap.size w2.heap.size _ wr hbd hbl.size)
            have HBL := hid hbl
            clear hbd hbl
            go_wp2_with fail
            refine HW.out.mono ?_
            rintro e w4 ⟨rfl, hb4⟩
            have hb24 := HBL.out.trans hb4
            have x4 := HX2.out.below hb24
            have HX4 := hid x4
            have hc1 := x4.c1
            have HS4 := hid (HS2.out.below hb24)
            have HB4 := hid (HB2.out.trans (hb24.mono HB2.out.size))
            clear hb4 hb24 x4 HBL HW HX2 HS2 HP2 HB2 HD0
            have hdl := descS_len (catB ps) m
            have HI := hid fun W => implDescribe_any (catB ps) m W
            have HE := hid fun W v (h : Reads W v (descS (catB ps) m)) (h' : Reads W (.slice a ss.length ca) ss) => slicesEqual_any v (.slice a ss.length ca) _ ss W h h' (by unfold maxLen; omega) hl
            have HR : Hid (buildR n ss ps m = if descS (catB ps) m = ss then .tuple #[.string (catB ps), .bool true] else .tuple #[.string ⟨#[]⟩, .bool false]) := by
              show _ = _
              unfold buildR buildOk
              rw [hok, decide_eq_true ht, decide_eq_true hu]
              simp
            change Hid (∀ W, Calls Try.prog 28 #[.string ⟨(catL ps).toArray⟩, .int .i64 m] W _) at HI
            generalize descS (catB ps) m = ds at *
            generalize descN (catB ps) m = dn at *
            have HCAT : Hid (catB ps = ⟨(catL ps).toArray⟩) := rfl
            have hlw := HX4.out.lt
            clear hok ht hu
            generalize (catL ps) = cl at *
            go_wp2_with fail
            refine wp_region_held (S := fun w' => w'.cell? ⟨w.heap.size, 1, none⟩ = some (.slice a ss.length ca)) (by kernel_rfl) ?_
            change wpAnyH _ _ _ _ _ _ _ _ (World.drew _)
            have hS0 : w4.drew.cell? ⟨w.heap.size, 1, none⟩ = some (.slice a ss.length ca) := hc1
            refine wpAnyH_take (i := 0) (v := .string ⟨cl.toArray⟩) rfl (by kernel_rfl) (by kernel_rfl) (by kernel_rfl) (fun _ _ _ h => h) (.inl ⟨rfl, fun w' hS => by go_simp⟩) hS0 ?_
            refine wpAnyH_take (i := 1) (v := .int .i64 m) rfl (by kernel_rfl) (by kernel_rfl) (by kernel_rfl) (fun _ _ _ h => h) (.inl ⟨rfl, fun w' hS => by go_simp⟩) hS0 ?_
            refine wpAnyH_take (i := 4) (v := .pointer (some ⟨w.heap.size, 1, none⟩)) rfl (by kernel_rfl) (by kernel_rfl) (by kernel_rfl) (fun _ _ _ h => h) (.inl ⟨rfl, fun w' hS => by go_simp⟩) hS0 ?_
            refine wpAnyH_take (i := 5) (v := .slice a ss.length ca) rfl (by kernel_rfl) (by kernel_rfl) (by kernel_rfl) (fun _ _ _ h => h) (.inl ⟨rfl, fun w' hS => by go_simp⟩) hS0 ?_
            have hec := enters_of Try.func28 (by kernel_rfl) rfl
            have hee := enters_of Try.func58 (by kernel_rfl) rfl
            refine held_one 2 (by kernel_rfl) (op_calls (f := 28) (args := #[.string ⟨cl.toArray⟩, .int .i64 m]) rfl rfl (by go_simp) (HI.out _) ?_)
            rintro e w5 ⟨v5, rfl, hr5, hb5⟩
            have hb5' : Below w4.heap.size w4 w5 := ⟨hb5.os, hb5.tape, hb5.output, hb5.size, hb5.block⟩
            have x5 := HX4.out.below hb5'
            have hc5 := x5.c1
            have HS5 := hid (HS4.out.below hb5')
            have HB5 := hid (HB4.out.trans (hb5'.mono HB4.out.size))
            have HR5 := hid (Reads.of_row hr5)
            obtain ⟨a5, c5, rfl, _⟩ := row_form hr5
            clear hb5 hb5' hr5 x5
            refine ⟨_, rfl, hc5, held_one 3 (by kernel_rfl) (op_value (v := .slice a5 ds.length c5) (w' := w5) rfl rfl (by go_simp; rw [run_sums]; rfl) ⟨hc5, ?_⟩)⟩
            refine held_one 6 (by kernel_rfl) (op_calls (f := 58) (args := #[.slice a5 ds.length c5, .slice a ss.length ca]) rfl rfl (by go_simp) (HE.out _ _ HR5.out HS5.out) ?_)
            rintro e w6 ⟨rfl, q, rfl⟩
            refine ⟨_, rfl, hc5, held_one 7 (by kernel_rfl) (op_value (v := .bool (!decide (ds = ss))) (w' := w5.drewN q) rfl rfl (by go_simp) ⟨hc5, wpAnyH_done (by kernel_rfl) ?_ _⟩)⟩
            by_cases hds : ds = ss
            · have HRX : Hid (r = .tuple #[.string ⟨cl.toArray⟩, .bool true]) := by
                show _ = _
                rw [HRR.out, HR.out, if_pos hds, HCAT.out]
              rw [decide_eq_true hds]
              clear hds
              go_simp
              go_wp2
              go_ret2
              exact ⟨by rw [HRX.out]; rfl, below_drewN HB5.out _⟩
            · have HRX : Hid (r = .tuple #[.string ⟨#[]⟩, .bool false]) := by
                show _ = _
                rw [HRR.out, HR.out, if_neg hds]
              rw [decide_eq_false hds]
              clear hds
              go_simp
              go_wp2
              go_ret2
              exact ⟨by rw [HRX.out]; rfl, below_drewN HB5.out _⟩
      · have e : buildR n ss ps m = .tuple #[.string ⟨#[]⟩, .bool false] := by simp [buildR, buildOk, hu]
        rw [e]; clear e
        rw [decide_eq_false hu] at HU
        go_enter Try.func35, Try.ntmps35
        go_wp2_with fail
        refine HOK.out.mono ?_
        rintro e w1 ⟨rfl, hb1⟩
        have x1 := HNEW.out.below hb1
        have hc0 := x1.c0
        have hc1 := x1.c1
        have HS1 := hid (HS0.out.below hb1)
        have HP1 := hid (HP0.out.below hb1)
        have HB1 := hid (HB0.out.trans (hb1.mono (by simp)))
        clear hb1 x1 HS0 HP0 HB0 HNEW HOK
        go_wp2_with fail
        refine (HZ.out _ HP1.out).mono ?_
        rintro e w1' ⟨rfl, rfl⟩
        go_wp2_with fail
        refine (HU.out _ HP1.out HS1.out).mono ?_
        rintro e w2 ⟨rfl, hb2⟩
        go_wp2
        go_ret2
        exact ⟨rfl, HB1.out.trans (hb2.mono HB1.out.size)⟩
    · have e : buildR n ss ps m = .tuple #[.string ⟨#[]⟩, .bool false] := by simp [buildR, buildOk, ht]
      rw [e]; clear e
      rw [decide_eq_false ht] at HZ
      go_enter Try.func35, Try.ntmps35
      go_wp2_with fail
      refine HOK.out.mono ?_
      rintro e w1 ⟨rfl, hb1⟩
      have x1 := HNEW.out.below hb1
      have hc0 := x1.c0
      have hc1 := x1.c1
      have HP1 := hid (HP0.out.below hb1)
      have HB1 := hid (HB0.out.trans (hb1.mono (by simp)))
      clear hb1 x1 HS0 HP0 HB0 HNEW HOK
      go_wp2_with fail
      refine (HZ.out _ HP1.out).mono ?_
      rintro e w1' ⟨rfl, rfl⟩
      go_wp2
      go_ret2
      exact ⟨rfl, HB1.out⟩
end Go.Proofs.Ytohnffbcgancfaa
