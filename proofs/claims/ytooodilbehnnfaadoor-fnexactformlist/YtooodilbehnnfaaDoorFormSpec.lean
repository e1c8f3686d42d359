/- spec.FormList writes a list. -/
import Derived.Test.YtooodilbehnnfaaDoorMarked
import Derived.Test.YtooodilbehnnfaaDoorHex
import Derived.Test.YtooodilbehnnfaaDoorListOk
namespace Go.Proofs.YtooodilbehnnfaaDoor
open Go.RowKit
/-- The form of a list, byte by byte. -/
def headL (n : Nat) : List UInt8 := [115, 105, 122, 101, 32] ++ Lib.decDigits n ++ [10]
def rowsL (ss : List ByteArray) : List UInt8 := ss.flatMap fun s => hexL s.data.toList ++ [10]
def formL (n : Nat) (ss : List ByteArray) : List UInt8 := headL n ++ rowsL ss
def formR (n : Int) (ss : List ByteArray) (m : Int) : ByteArray := if okL n ss m then ⟨(formL n.toNat ss).toArray⟩ else ⟨#[]⟩
theorem rowsL_take (ss : List ByteArray) (k : Nat) (h : k < ss.length) : rowsL (ss.take (k + 1)) = rowsL (ss.take k) ++ hexL (ss.getD k ByteArray.empty).data.toList ++ [10] := by
  unfold rowsL
  rw [List.take_add_one, List.flatMap_append, List.getElem?_eq_getElem h]
  simp [h]
theorem head_text (n : Nat) : (⟨#[115, 105, 122, 101, 32]⟩ : ByteArray) ++ decB n ++ ⟨#[10]⟩ = ⟨(headL n).toArray⟩ := by
  unfold decB headL
  have h1 := ByteArray.mk_append_mk [115, 105, 122, 101, 32] (Lib.decDigits n)
  have h2 := ByteArray.mk_append_mk ([115, 105, 122, 101, 32] ++ Lib.decDigits n) [10]
  exact (congrArg (fun x : ByteArray => x ++ ⟨#[10]⟩) h1).trans h2
/-- The form's first lines: how long, and as cells. -/
def fl (n : Nat) (ss : List ByteArray) (k : Nat) : Nat := (headL n ++ rowsL (ss.take k)).length
def fc (n : Nat) (ss : List ByteArray) (k : Nat) : List Value := Lib.byteCells (headL n ++ rowsL (ss.take k))
theorem cells_rows (n : Nat) (ss : List ByteArray) (k : Nat) (h : k < ss.length) : fc n ss (k + 1) = fc n ss k ++ Lib.strCells (hexB (ss.getD k ByteArray.empty)) ++ [.int .u8 10] := by
  unfold fc
  rw [rowsL_take ss k h]
  simp [Lib.byteCells, Lib.strCells, hexB]
theorem decB_len4 (n : Nat) (h : n ≤ 3000) : (Lib.decDigits n).length ≤ 3001 := by
  have := decB_len n n (Nat.le_refl _)
  have e : (decB n).size = (Lib.decDigits n).length := by
    show (Lib.decDigits n).toArray.size = _
    simp
  omega
theorem rowsL_len (m : Nat) : ∀ ss : List ByteArray, (∀ s ∈ ss, s.size ≤ m) → (rowsL ss).length ≤ ss.length * (2 * m + 1)
  | [], _ => by simp [rowsL]
  | s :: ss, h => by
    have ih := rowsL_len m ss (fun x hx => h x (by simp [hx]))
    have hs := h s (by simp)
    unfold rowsL at ih ⊢
    rw [List.flatMap_cons, List.length_append, List.length_append, hexL_len]
    have e : (s :: ss).length * (2 * m + 1) = ss.length * (2 * m + 1) + (2 * m + 1) := by rw [List.length_cons, Nat.add_mul, Nat.one_mul]
    have e2 : s.data.toList.length = s.size := by rw [Array.length_toList]; rfl
    rw [e, e2, List.length_cons, List.length_nil]
    generalize ss.length * (2 * m + 1) = X at *
    omega
theorem conv_mrow {w : World} {base n : Nat} {v : Value} {l : List UInt8} (h : MRow w base v n (Lib.byteCells l)) : (convert 33 9 v).run Tryd.prog w = .ok (.string ⟨l.toArray⟩) w := by
  obtain ⟨g, cap, rfl⟩ := h.form
  have e : Lib.byteCells l = (l.map fun b => (b.toNat : Int)).map (Value.int .u8) := by simp [Lib.byteCells]
  have hl : (l.map fun b => (b.toNat : Int)).length = n := by
    have := h.1
    rw [Lib.byteCells_length] at this
    simpa using this
  rw [← nums_bytes]
  refine run_convert_bytes_arg w 33 5 Tryd.underlying33 Tryd.underlying5 g 0 n cap _ hl (fun i hi => ?_) 9 Tryd.underlying9
  rw [Nat.zero_add]
  refine h.cell i _ ?_
  rw [e]
  have : i < (l.map fun b => (b.toNat : Int)).length := by omega
  simp only [List.length_map] at this
  simp [this]
set_option maxRecDepth 100000 in
set_option maxHeartbeats 1000000 in
theorem specFormList_any (n : Int) (v : Value) (ss : List ByteArray) (m : Int) (w : World) (hv : Reads w v ss) (hl : ss.length ≤ maxLen) (hsz : ∀ i, (ss.getD i ByteArray.empty).size ≤ maxLen) :
    Calls Tryd.prog 7 #[.agg #[.int .i64 n, v], .int .i64 m] w fun e w' => e = .returned (.string (formR n ss m)) ∧ Below w.heap.size w w' := by
  obtain ⟨i0, hi, hz0, hz1, hz2⟩ := info_parts Tryd.infoByte
  have hnew : LBox (w.alloc (.cells #[.int .i64 n, v] 27)) w.heap.size n v := World.alloc_heap_new w _
  have hb0 := (Below.refl w.heap.size w).alloc (Nat.le_refl _) (.cells #[.int .i64 n, v] 27)
  have HOK := hid (l3Ok_any n v ss m _ (hv.below hb0) hl hsz)
  have HS0 := hid (hv.below hb0)
  obtain ⟨a, ca, rfl, _⟩ := hv.form
  have HNEW := hid hnew
  have HB0 := hid hb0
  clear hv hnew hb0
  cases hok : okL n ss m with
  | false =>
    have e : formR n ss m = ⟨#[]⟩ := by simp [formR, hok]
    rw [e]; clear e
    rw [hok] at HOK
    go_enter Tryd.func7, Tryd.ntmps7
    go_wp2_with (go_at_call 18; refine HOK.out.mono ?_; rintro e w1 ⟨rfl, hb1⟩)
    go_ret
    exact ⟨rfl, HB0.out.trans (hb1.mono (by simp))⟩
  | true =>
    rw [hok] at HOK
    have hparts : isW m = true ∧ (0 ≤ n ∧ n ≤ 3000) ∧ ss.length ≤ 375 ∧ ∀ s ∈ ss, (s.size : Int) = m := by
      unfold okL at hok
      simp only [Bool.and_eq_true, decide_eq_true_eq, List.all_eq_true] at hok
      exact ⟨hok.1, hok.2.1, hok.2.2.1, hok.2.2.2⟩
    obtain ⟨hwm, ⟨h0, h3⟩, h375, hall⟩ := hparts
    obtain ⟨nn, rfl⟩ := Int.eq_ofNat_of_zero_le h0
    have hm8 : 1 ≤ m ∧ m ≤ 8 := by simpa [isW] using hwm
    have HRES : Hid (formR (nn : Int) ss m = ⟨(headL nn ++ rowsL ss).toArray⟩) := by
      show _ = _
      simp [formR, hok, formL]
    have HSZ : Hid (∀ k, k < ss.length → (ss.getD k ByteArray.empty).size ≤ 8) := fun k hk => by
      rw [List.getD_eq_getElem?_getD, List.getElem?_eq_getElem hk]
      have := hall _ (List.getElem_mem hk)
      simp only [Option.getD_some]
      omega
    have HLEN : Hid (∀ k, (headL nn ++ rowsL (ss.take k)).length ≤ 100000) := fun k => by
      have h1 := rowsL_len 8 (ss.take k) (fun s hs => by have := hall s (List.mem_of_mem_take hs); omega)
      have h2 := decB_len4 nn (by omega)
      have h4 : (ss.take k).length ≤ 375 := by rw [List.length_take]; omega
      rw [List.length_append]
      unfold headL
      simp only [List.length_append, List.length_cons, List.length_nil]
      have h5 : (ss.take k).length * (2 * 8 + 1) ≤ 375 * 17 := Nat.mul_le_mul h4 (by omega)
      omega
    obtain ⟨r, hr⟩ : ∃ r, r = formR (nn : Int) ss m := ⟨_, rfl⟩
    rw [← hr]
    rw [← hr] at HRES
    have HDEC := hid fun W => l3Dec_any nn nn W (Nat.le_refl _) (by omega)
    have hdz : (decB nn).size ≤ 3001 := by have := decB_len nn nn (Nat.le_refl _); omega
    have HHEAD := hid (head_text nn)
    clear hr hok hall hwm hsz
    generalize decB nn = dec at *
    go_enter Tryd.func7, Tryd.ntmps7
    go_wp2_with fail
    refine HOK.out.mono ?_
    rintro e w1 ⟨rfl, hb1⟩
    have x1 := HNEW.out.below hb1
    have hc0 := x1.c0
    have hc1 := x1.c1
    have HS1 := hid (HS0.out.below hb1)
    have HB1 := hid (HB0.out.trans (hb1.mono (by simp)))
    have HX1 := hid x1
    clear hb1 x1 HS0 HB0 HNEW HOK
    go_wp2_with fail
    refine (HDEC.out _).mono ?_
    rintro e w2 ⟨rfl, hb2⟩
    have x2 := HX1.out.below hb2
    have HS2 := hid (HS1.out.below hb2)
    have HB2 := hid (HB1.out.trans (hb2.mono HB1.out.size))
    obtain ⟨v3, w3, hcv, hrow3, hb3⟩ := conv_text (P := Tryd.prog) w2 9 33 ((⟨#[115, 105, 122, 101, 32]⟩ : ByteArray) ++ dec ++ ⟨#[10]⟩) Tryd.underlying9 Tryd.underlying33 Tryd.underlying5 (by rw [ByteArray.size_append, ByteArray.size_append]; show 5 + dec.size + 1 ≤ _; omega)
    have hS : Lib.strCells ((⟨#[115, 105, 122, 101, 32]⟩ : ByteArray) ++ dec ++ ⟨#[10]⟩) = fc nn ss 0 := by
      rw [HHEAD.out]
      simp [fc, Lib.strCells, Lib.byteCells, rowsL]
    rw [hS] at hrow3
    have hlen3 : ((⟨#[115, 105, 122, 101, 32]⟩ : ByteArray) ++ dec ++ ⟨#[10]⟩).size = fl nn ss 0 := by
      rw [HHEAD.out]
      show (headL nn).toArray.size = _
      simp [fl, rowsL]
    rw [hlen3] at hrow3
    obtain ⟨g3, cap3, rfl⟩ := hrow3.form
    have HROW3 := hid hrow3
    have HB3 := hid hb3
    have HX2 := hid x2
    have hzz : 5 + dec.size + 1 ≤ 9223372036854775807 := by omega
    clear hb2 x2 hrow3 hb3 hc0 hc1 hS hlen3 HHEAD
    go_wp2
    go_loopw [5, 6] (fun v i wr => ∃ (k g cp : Nat), k ≤ ss.length ∧ i = .int .i64 k ∧ v = .slice (some ⟨g, 0, none⟩) (fl nn ss k) cp ∧ MRow wr w2.heap.size v (fl nn ss k) (fc nn ss k) ∧ Below w2.heap.size w2 wr) (fun _ i _ => ss.length - (intOf i).toNat)
    case atStart => exact ⟨0, g3, cap3, Nat.zero_le _, rfl, rfl, HROW3.out, HB3.out⟩
    case round =>
      obtain ⟨k, g, cp, hk, rfl, rfl, hrow, hbl⟩ := hrel
      have xr := HX2.out.below hbl
      have hr0 := xr.c0
      have hr1 := xr.c1
      by_cases hlt : k < ss.length
      · obtain ⟨_, _, e1, hcs⟩ := (HS2.out.below hbl).form
        simp only [Value.slice.injEq] at e1
        obtain ⟨rfl, _, rfl⟩ := e1
        obtain ⟨b1, o1, rfl, hb1, hd1⟩ := hcs k hlt
        have hs8 := HSZ.out k hlt
        have HHX := hid fun W => l3Hex_any (ss.getD k ByteArray.empty) W (by omega)
        have HC := hid (cells_rows nn ss k hlt)
        have hL : fl nn ss k ≤ 100000 := HLEN.out k
        have hLl : (hexB (ss.getD k ByteArray.empty)).size ≤ 16 := by
          show (hexL _).toArray.size ≤ 16
          rw [List.size_toArray, hexL_len, Array.length_toList]
          show 2 * (ss.getD k ByteArray.empty).size ≤ 16
          omega
        have HLL : Hid (fl nn ss (k + 1) = fl nn ss k + (hexB (ss.getD k ByteArray.empty)).size + 1) := by
          have e1 : ∀ j, (fc nn ss j).length = fl nn ss j := fun j => by unfold fc fl; rw [Lib.byteCells_length]
          have := congrArg List.length HC.out
          rw [List.length_append, List.length_append, e1, e1, Lib.strCells_length] at this
          exact this
        generalize ss.getD k ByteArray.empty = s at *
        generalize hexB s = hx at *
        generalize fl nn ss k = L at *
        generalize fc nn ss k = bc at *
        have HROW := hid hrow
        have HBL := hid hbl
        clear hrow hbl hcs
        go_wp2_with fail
        refine (HHX.out _).mono ?_
        rintro e w4 ⟨rfl, hb4⟩
        have hrow4 := HROW.out.below hb4
        have HROW4 := hid hrow4
        have HB4 := hid (HBL.out.trans (hb4.mono HBL.out.size))
        have hs4 := HB4.out.size
        clear hb4
        go_wp2_with (first
          | (at_builtin; refine wpList_append_text rfl _ _ 33 9 rfl w2.heap.size i0 Tryd.underlying33 Tryd.underlying9 hi hz0 hz1 hz2 _ L bc rfl hrow4 hx rfl (by omega) hs4 ?_; intro v5 w5 hown5 hgrow5; obtain ⟨g5, cp5, rfl⟩ := hown5.form; have HB5 := hid (HB4.out.grown hgrow5 hs4 (fun g e => (HROW4.out.lt g e).1)); have hs5 := HB5.out.size; have hown5a : ∀ o, MRow (w5.alloc o) w2.heap.size (.slice (some ⟨g5, 0, none⟩) (L + hx.size) cp5) (L + hx.size) (bc ++ Lib.strCells hx) := fun o => hown5.below ((Below.refl _ w5).alloc (Nat.le_refl _) o); clear hown5 hgrow5 hrow4)
          | (at_builtin; refine wpList_append_bytes rfl _ _ 33 rfl w2.heap.size i0 Tryd.underlying33 hi hz0 hz1 hz2 _ (L + hx.size) (bc ++ Lib.strCells hx) rfl (hown5a _) ⟨w5.heap.size, 0, none⟩ 1 1 [.int .u8 10] rfl rfl (cell_one_new _ _ _) (by simp [Value.oneCell']) (by omega) (by simp; omega) ?_; intro v6 w6 hown6 hgrow6))
        obtain ⟨g6, cp6, rfl⟩ := hown6.form
        have HB6 := hid ((HB5.out.alloc hs5 _).grown hgrow6 (by simp; omega) (fun g e => ((hown5a (.cells #[.int .u8 10] 5)).lt g e).1))
        have HOWN6 := hid hown6
        clear hown6 hgrow6 hown5a
        go_wp2
        go_roundw
        case rel => exact ⟨k + 1, g6, cp6, by omega, by go_num, by rw [HLL.out], by rw [HLL.out, HC.out]; exact HOWN6.out, HB6.out⟩
        case measure => simp [intOf]; omega
      · obtain rfl : k = ss.length := by omega
        have hcvv := conv_mrow hrow
        rw [List.take_length] at hcvv
        have HBL := hid hbl
        clear hrow hbl xr
        go_wp2
        go_ret
        refine ⟨?_, HB2.out.trans (HBL.out.mono HB2.out.size)⟩
        rw [HRES.out]; rfl
end Go.Proofs.YtooodilbehnnfaaDoor
