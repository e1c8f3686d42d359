/- impl.FormList writes a list. -/
import Derived.Test.YtooodilbehnnfaaDoorFormSpec
import Derived.Test.YtooodilbehnnfaaDoorDigits
import Derived.Test.YtooodilbehnnfaaDoorBuilder
import Derived.Test.YtooodilbehnnfaaDoorItoa
import Derived.Lib.SmallJoins
namespace Go.Proofs.YtooodilbehnnfaaDoor
open Go.RowKit
theorem isBuilder_below {T : TypeId} {B b : Nat} {bs : List Value} {w w' : World} (h : Lib.IsBuilder T 5 B b bs w) (hb : Below w.heap.size w w') : Lib.IsBuilder T 5 B b bs w' := by
  rcases h with ⟨h1, v, h2, h3, h4⟩ | ⟨h1, v, h2, h3, h4⟩
  · exact .inl ⟨h1, v, (hb.block b (Array.getElem?_eq_some_iff.1 h2).1).trans h2, Below.row hb h3, h4⟩
  · exact .inr ⟨h1, v, (hb.block b (Array.getElem?_eq_some_iff.1 h2).1).trans h2, Below.row hb h3, h4⟩
theorem line_cells (d : ByteArray) : Lib.strCells (d ++ ⟨#[10]⟩) = Lib.strCells d ++ [.int .u8 10] := by
  rw [app_mk]
  simp [Lib.strCells]
theorem tab_below {w w' : World} (h : Lib.TabIs Tryd.prog w "internal/strconv.uint64pow10" .u64 Lib.pow10Tab) (hb : Below w.heap.size w w') : Lib.TabIs Tryd.prog w' "internal/strconv.uint64pow10" .u64 Lib.pow10Tab :=
  Go.Joins.var_stays (g := 0) (by kernel_rfl) h hb (Nat.le_refl _)
set_option maxRecDepth 100000 in
set_option maxHeartbeats 1000000 in
theorem implFormList_any (n : Int) (v : Value) (ss : List ByteArray) (m : Int) (w : World) (hv : Reads w v ss) (hl : ss.length ≤ maxLen) (hsz : ∀ i, (ss.getD i ByteArray.empty).size ≤ maxLen) (htab : Lib.TabIs Tryd.prog w "internal/strconv.uint64pow10" .u64 Lib.pow10Tab) :
    Calls Tryd.prog 9 #[.agg #[.int .i64 n, v], .int .i64 m] w fun e w' => e = .returned (.string (formR n ss m)) ∧ Below w.heap.size w w' := by
  have hnew : LBox (w.alloc (.cells #[.int .i64 n, v] 27)) w.heap.size n v := World.alloc_heap_new w _
  have hb0 := (Below.refl w.heap.size w).alloc (Nat.le_refl _) (.cells #[.int .i64 n, v] 27)
  have HOK := hid (isList_any n v ss m _ (hv.below hb0) hl hsz)
  have HS0 := hid (hv.below hb0)
  obtain ⟨a, ca, rfl, _⟩ := hv.form
  have HNEW := hid hnew
  have HB0 := hid hb0
  have HTAB := hid htab
  clear hv hnew hb0 htab
  cases hok : okL n ss m with
  | false =>
    have e : formR n ss m = ⟨#[]⟩ := by simp [formR, hok]
    rw [e]; clear e
    rw [hok] at HOK
    go_enter Tryd.func9, Tryd.ntmps9
    go_wp2_with (go_at_call 22; refine HOK.out.mono ?_; rintro e w1 ⟨rfl, hb1⟩)
    go_ret
    exact ⟨rfl, HB0.out.trans (hb1.mono (by simp))⟩
  | true =>
    rw [hok] at HOK
    have hparts : isW m = true ∧ (0 ≤ n ∧ n ≤ 3000) ∧ ss.length ≤ 375 ∧ ∀ s ∈ ss, (s.size : Int) = m := by
      unfold okL at hok
      simp only [Bool.and_eq_true, decide_eq_true_eq, List.all_eq_true] at hok
      exact ⟨hok.1, hok.2.1, hok.2.2.1, hok.2.2.2⟩
    obtain ⟨hwm, ⟨h0, h3⟩, h375, hall⟩ := hparts
    obtain ⟨nn, rfl⟩ := Int.eq_ofNat_of_zero_le h0
    have hm8 : 1 ≤ m ∧ m ≤ 8 := by simpa [isW] using hwm
    have HRES : Hid (formR (nn : Int) ss m = ⟨(headL nn ++ rowsL ss).toArray⟩) := by
      show _ = _
      simp [formR, hok, formL]
    have HSZ : Hid (∀ k, k < ss.length → (ss.getD k ByteArray.empty).size ≤ 8) := fun k hk => by
      rw [List.getD_eq_getElem?_getD, List.getElem?_eq_getElem hk]
      have := hall _ (List.getElem_mem hk)
      simp only [Option.getD_some]
      omega
    have HLEN : Hid (∀ k, (fc nn ss k).length ≤ 100000) := fun k => by
      have h1 := rowsL_len 8 (ss.take k) (fun s hs => by have := hall s (List.mem_of_mem_take hs); omega)
      have h2 := decB_len4 nn (by omega)
      have h4 : (ss.take k).length ≤ 375 := by rw [List.length_take]; omega
      unfold fc
      rw [Lib.byteCells_length, List.length_append]
      unfold headL
      simp only [List.length_append, List.length_cons, List.length_nil]
      have h5 : (ss.take k).length * (2 * 8 + 1) ≤ 375 * 17 := Nat.mul_le_mul h4 (by omega)
      omega
    obtain ⟨r, hr⟩ : ∃ r, r = formR (nn : Int) ss m := ⟨_, rfl⟩
    rw [← hr]
    rw [← hr] at HRES
    have HIT := hid fun W (h : Lib.TabIs Tryd.prog W "internal/strconv.uint64pow10" .u64 Lib.pow10Tab) => itoa_any nn (by omega) W h
    have hdz : (decB nn).size ≤ 3001 := by have := decB_len nn nn (Nat.le_refl _); omega
    have HHEAD := hid (head_text nn)
    clear hr hok hall hwm hsz
    generalize decB nn = dec at *
    go_enter Tryd.func9, Tryd.ntmps9
    go_wp2_with fail
    refine HOK.out.mono ?_
    rintro e w1 ⟨rfl, hb1⟩
    have hbx : Below w1.heap.size w1 (w1.alloc (.cells #[.pointer none, .slice none 0 0] 46)) := (Below.refl _ _).alloc (Nat.le_refl _) _
    have HXA := hid (HNEW.out.below hb1)
    have HSA := hid (HS0.out.below hb1)
    have x1 := HXA.out.below hbx
    have hc0 := x1.c0
    have hc1 := x1.c1
    have HS1 := hid ((HS0.out.below hb1).below hbx)
    have HB1 := hid (HB0.out.trans (hb1.mono (by simp)))
    have HT1 := hid (tab_below (tab_below (tab_below HTAB.out HB0.out) hb1) hbx)
    have HX1 := hid x1
    have HD1 := hid (Lib.fresh_isBuilder 46 5 w1)
    have HBX := hid hbx
    clear hb1 x1 HS0 HB0 HNEW HOK hbx HTAB
    go_wp2_with fail
    refine (HIT.out _ HT1.out).mono ?_
    rintro e w2 ⟨rfl, hb2⟩
    have x2 := HX1.out.below hb2
    have HX2 := hid x2
    have HS2 := hid (HS1.out.below hb2)
    have HB12 := hid (HBX.out.trans (hb2.mono (by simp)))
    have hw2 := HB12.out.size
    have HW := hid (writeString_any w1.heap.size w1.heap.size [] ((⟨#[115, 105, 122, 101, 32]⟩ : ByteArray) ++ dec ++ ⟨#[10]⟩) w2 (isBuilder_below HD1.out hb2) (by rw [ByteArray.size_append, ByteArray.size_append]; show 0 + (5 + dec.size + 1) ≤ _; omega) hw2)
    have hS : [] ++ Lib.strCells ((⟨#[115, 105, 122, 101, 32]⟩ : ByteArray) ++ dec ++ ⟨#[10]⟩) = fc nn ss 0 := by
      rw [HHEAD.out]
      simp [fc, Lib.strCells, Lib.byteCells, rowsL]
    rw [hS] at HW
    have hzz : 5 + dec.size + 1 ≤ 9223372036854775807 := by omega
    clear hb2 x2 hS HD1 HT1 HBX HX1 HS1 hc0 hc1 HHEAD
    go_wp2_with fail
    refine HW.out.mono ?_
    rintro e w3 ⟨rfl, hbd3, hb3⟩
    have HD3 := hid hbd3
    have HB13 := hid (HB12.out.trans hb3)
    have x3 := HXA.out.below HB13.out
    have hc3 := x3.c1
    clear hbd3 hb3 x3 HW HB12 HX2 HS2 hw2
    go_wp2
    go_loopw [21] (fun i wr => ∃ k : Nat, k ≤ ss.length ∧ i = .int .i64 k ∧ Lib.IsBuilder 46 5 w1.heap.size w1.heap.size (fc nn ss k) wr ∧ Below w1.heap.size w1 wr) (fun i _ => ss.length - (intOf i).toNat)
    case atStart => exact ⟨0, Nat.zero_le _, rfl, .inr HD3.out, HB13.out⟩
    case round =>
      obtain ⟨k, hk, rfl, hbd, hbl⟩ := hrel
      by_cases hlt : k < ss.length
      · obtain ⟨_, _, e1, hcs⟩ := (HSA.out.below hbl).form
        simp only [Value.slice.injEq] at e1
        obtain ⟨rfl, _, rfl⟩ := e1
        obtain ⟨b1, o1, rfl, hb1, hd1⟩ := hcs k hlt
        have hs8 := HSZ.out k hlt
        have HDG := hid fun W => digitsOf_any (ss.getD k ByteArray.empty) W (by omega)
        have HC := hid (cells_rows nn ss k hlt)
        have hL := HLEN.out k
        have hLl : (hexB (ss.getD k ByteArray.empty)).size ≤ 16 := by
          show (hexL _).toArray.size ≤ 16
          rw [List.size_toArray, hexL_len, Array.length_toList]
          show 2 * (ss.getD k ByteArray.empty).size ≤ 16
          omega
        generalize ss.getD k ByteArray.empty = s at *
        generalize hexB s = hx at *
        have HBD := hid hbd
        have HBL := hid hbl
        clear hbd hbl hcs
        go_wp2_with fail
        refine (HDG.out _).mono ?_
        rintro e w4 ⟨rfl, hb4⟩
        have HB4 := hid (HBL.out.trans (hb4.mono HBL.out.size))
        have HW := hid (writeString_any w1.heap.size w1.heap.size (fc nn ss k) (hx ++ ⟨#[10]⟩) w4 (isBuilder_below HBD.out hb4) (by rw [ByteArray.size_append]; show _ + (hx.size + 1) ≤ _; omega) HB4.out.size)
        rw [line_cells, ← List.append_assoc, ← HC.out] at HW
        clear hb4
        go_wp2_with fail
        refine HW.out.mono ?_
        rintro e w5 ⟨rfl, hbd5, hb5⟩
        have HD5 := hid hbd5
        have HB5 := hid (HB4.out.trans hb5)
        clear hbd5 hb5
        go_wp2
        go_roundw
        case rel => exact ⟨k + 1, by omega, by go_num, .inr HD5.out, HB5.out⟩
        case measure => simp [intOf]; omega
      · obtain rfl : k = ss.length := by omega
        have e : fc nn ss ss.length = Lib.byteCells (headL nn ++ rowsL ss) := by unfold fc; rw [List.take_length]
        rw [e] at hbd
        have HST := hid (builderString_any w1.heap.size w1.heap.size _ wr hbd hbl.size)
        have HBL := hid hbl
        clear hbd hbl e
        go_wp2_with fail
        refine HST.out.mono ?_
        rintro e w6 ⟨rfl, hb6⟩
        have HB6 := hid (HB1.out.trans ((HBL.out.trans hb6).mono HB1.out.size))
        clear hb6
        go_wp2
        go_ret
        refine ⟨?_, HB6.out⟩
        rw [HRES.out]; rfl
end Go.Proofs.YtooodilbehnnfaaDoor
