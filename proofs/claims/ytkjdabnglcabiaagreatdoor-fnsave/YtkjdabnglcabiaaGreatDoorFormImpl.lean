import Derived.Shelf.Strings.Builder1
import Derived.Test.YtkjdabnglcabiaaGreatDoorRows
import Derived.Shelf.Strconv.Itoa3
import Derived.Lib.AppendIntMem
import Derived.Test.YtkjdabnglcabiaaGreatDoorDigits
import Derived.Lib.SmallJoins
/- strings.Builder: what is written into it, it gives. -/
namespace Go.Proofs.YtkjdabnglcabiaaGreatDoor
open Go.RowKit Go.Shelf
def bRen : Ren := { f := fun n => if n = 166 then 75 else if n = 240 then 98 else if n = 276 then 114 else if n = 169 then 78 else n, t := fun n => if n = 37 then 22 else if n = 70 then 113 else if n = 72 then 115 else if n = 75 then 117 else if n = 80 then 120 else if n = 127 then 139 else if n = 164 then 159 else n, g := fun n => n }
theorem bLays166 : Lays.n166 Tryz.prog bRen where
 mixed := by kernel_rfl
 f166 := by kernel_rfl
 f240 := by kernel_rfl
 f276 := by kernel_rfl
 t0 := by kernel_rfl
 a0 := fun _ => by kernel_rfl
 z0 := fun _ => by kernel_rfl
 v0 := fun _ => by kernel_rfl
 t3 := by kernel_rfl
 a3 := fun _ => by kernel_rfl
 z3 := fun _ => by kernel_rfl
 v3 := fun _ => by kernel_rfl
 t4 := by kernel_rfl
 a4 := fun _ => by kernel_rfl
 z4 := fun _ => by kernel_rfl
 v4 := fun _ => by kernel_rfl
 t9 := by kernel_rfl
 a9 := fun _ => by kernel_rfl
 z9 := fun _ => by kernel_rfl
 v9 := fun _ => by kernel_rfl
 t20 := by kernel_rfl
 a20 := fun _ => by kernel_rfl
 z20 := fun _ => by kernel_rfl
 v20 := fun _ => by kernel_rfl
 t37 := by kernel_rfl
 a37 := fun _ => by kernel_rfl
 z37 := fun _ => by kernel_rfl
 v37 := fun _ => by kernel_rfl
 t70 := by kernel_rfl
 a70 := fun _ => by kernel_rfl
 z70 := fun _ => by kernel_rfl
 v70 := fun _ => by kernel_rfl
 t72 := by kernel_rfl
 a72 := fun _ => by kernel_rfl
 z72 := fun _ => by kernel_rfl
 v72 := fun _ => by kernel_rfl
 t75 := by kernel_rfl
 a75 := fun _ => by kernel_rfl
 z75 := fun _ => by kernel_rfl
 v75 := fun _ => by kernel_rfl
 t164 := by kernel_rfl
 a164 := fun _ => by kernel_rfl
 z164 := fun _ => by kernel_rfl
 v164 := fun _ => by kernel_rfl
theorem bLays169 : Lays.n169 Tryz.prog bRen where
 mixed := by kernel_rfl
 f169 := by kernel_rfl
 t0 := by kernel_rfl
 a0 := fun _ => by kernel_rfl
 z0 := fun _ => by kernel_rfl
 v0 := fun _ => by kernel_rfl
 t3 := by kernel_rfl
 a3 := fun _ => by kernel_rfl
 z3 := fun _ => by kernel_rfl
 v3 := fun _ => by kernel_rfl
 t9 := by kernel_rfl
 a9 := fun _ => by kernel_rfl
 z9 := fun _ => by kernel_rfl
 v9 := fun _ => by kernel_rfl
 t37 := by kernel_rfl
 a37 := fun _ => by kernel_rfl
 z37 := fun _ => by kernel_rfl
 v37 := fun _ => by kernel_rfl
 t70 := by kernel_rfl
 a70 := fun _ => by kernel_rfl
 z70 := fun _ => by kernel_rfl
 v70 := fun _ => by kernel_rfl
 t72 := by kernel_rfl
 a72 := fun _ => by kernel_rfl
 z72 := fun _ => by kernel_rfl
 v72 := fun _ => by kernel_rfl
 t127 := by kernel_rfl
 a127 := fun _ => by kernel_rfl
 z127 := fun _ => by kernel_rfl
 v127 := fun _ => by kernel_rfl
theorem bExtra : Builder.Extra Tryz.prog bRen where
 sizeBuilder := by kernel_rfl
 liesBuilder := by kernel_rfl
 t5 := by kernel_rfl
 a5 := fun _ => by kernel_rfl
 z5 := fun _ => by kernel_rfl
 v5 := fun _ => by kernel_rfl
 infoByte := by kernel_rfl
 cellsByte := by kernel_rfl
 sizeByte := by kernel_rfl
 neB5 := by decide
theorem writeString_any (B b : Nat) (bs : List Value) (s : ByteArray) (w : World) (h : Lib.IsBuilder 115 5 B b bs w) (hlen : bs.length + s.size ≤ 140737488355328) (hBw : B ≤ w.heap.size) :
  Calls Tryz.prog 75 #[.pointer (some ⟨b, 0, none⟩), .string s] w fun e w' => e = .returned (.tuple #[.int .i64 s.size, .nilIface]) ∧ (Lib.BuilderAt 115 5 B b (.pointer (some ⟨b, 0, none⟩)) (bs ++ Lib.strCells s) w' ∧ Below B w w') :=
 Any.Builder_WriteString bLays166 bExtra B b bs s w h hlen hBw
theorem builderString_any (B b : Nat) (l : List UInt8) (w : World) (h : Lib.IsBuilder 115 5 B b (Lib.byteCells l) w) (hBw : B ≤ w.heap.size) :
  Calls Tryz.prog 78 #[.pointer (some ⟨b, 0, none⟩)] w fun e w' => e = .returned (.string ⟨l.toArray⟩) ∧ Below B w w' :=
 Any.Builder_String_any bLays169 bExtra B b l w h hBw
end Go.Proofs.YtkjdabnglcabiaaGreatDoor
/- strconv.Itoa: the decimal of a number. -/
namespace Go.Proofs.YtkjdabnglcabiaaGreatDoor
open Go.RowKit Go.Shelf
def itRen : Ren := ⟨fun | 171 => 76 | 243 => 99 | 246 => 115 | 283 => 136 | 284 => 137 | 285 => 138 | 286 => 139 | 129 => 134 | 317 => 152 | 318 => 153 | 319 => 154 | 320 => 155 | 337 => 161 | 338 => 162 | n => n, fun | 171 => 191 | 53 => 92 | 37 => 22 | 173 => 193 | 212 => 218 | 51 => 189 | 213 => 219 | 46 => 135 | 232 => 227 | 233 => 228 | n => n, fun | 17 => 3 | 18 => 7 | 19 => 8 | n => n⟩
theorem itLays : LaysM.n171 Tryz.prog itRen where
 mixed := by kernel_rfl
 f129 := by kernel_rfl
 f171 := by kernel_rfl
 f243 := by kernel_rfl
 f246 := by kernel_rfl
 f283 := by kernel_rfl
 f284 := by kernel_rfl
 f285 := by kernel_rfl
 f286 := by kernel_rfl
 f317 := by kernel_rfl
 f318 := by kernel_rfl
 f319 := by kernel_rfl
 f320 := by kernel_rfl
 f337 := by kernel_rfl
 f338 := by kernel_rfl
 t0 := by kernel_rfl
 a0 := fun _ => by kernel_rfl
 z0 := fun _ => by kernel_rfl
 v0 := fun _ => by kernel_rfl
 t2 := by kernel_rfl
 a2 := fun _ => by kernel_rfl
 z2 := fun _ => by kernel_rfl
 v2 := fun _ => by kernel_rfl
 t3 := by kernel_rfl
 a3 := fun _ => by kernel_rfl
 z3 := fun _ => by kernel_rfl
 v3 := fun _ => by kernel_rfl
 t4 := by kernel_rfl
 a4 := fun _ => by kernel_rfl
 z4 := fun _ => by kernel_rfl
 v4 := fun _ => by kernel_rfl
 t5 := by kernel_rfl
 a5 := fun _ => by kernel_rfl
 z5 := fun _ => by kernel_rfl
 v5 := fun _ => by kernel_rfl
 t9 := by kernel_rfl
 a9 := fun _ => by kernel_rfl
 z9 := fun _ => by kernel_rfl
 v9 := fun _ => by kernel_rfl
 t20 := by kernel_rfl
 a20 := fun _ => by kernel_rfl
 z20 := fun _ => by kernel_rfl
 v20 := fun _ => by kernel_rfl
 t37 := by kernel_rfl
 a37 := fun _ => by kernel_rfl
 z37 := fun _ => by kernel_rfl
 v37 := fun _ => by kernel_rfl
 t46 := by kernel_rfl
 a46 := fun _ => by kernel_rfl
 z46 := fun _ => by kernel_rfl
 v46 := fun _ => by kernel_rfl
 t51 := by kernel_rfl
 a51 := fun _ => by kernel_rfl
 z51 := fun _ => by kernel_rfl
 v51 := fun _ => by kernel_rfl
 t53 := by kernel_rfl
 a53 := fun _ => by kernel_rfl
 z53 := fun _ => by kernel_rfl
 v53 := fun _ => by kernel_rfl
 t171 := by kernel_rfl
 a171 := fun _ => by kernel_rfl
 z171 := fun _ => by kernel_rfl
 v171 := fun _ => by kernel_rfl
 t173 := by kernel_rfl
 a173 := fun _ => by kernel_rfl
 z173 := fun _ => by kernel_rfl
 v173 := fun _ => by kernel_rfl
 t212 := by kernel_rfl
 a212 := fun _ => by kernel_rfl
 z212 := fun _ => by kernel_rfl
 v212 := fun _ => by kernel_rfl
 t213 := by kernel_rfl
 a213 := fun _ => by kernel_rfl
 z213 := fun _ => by kernel_rfl
 t232 := by kernel_rfl
 a232 := fun _ => by kernel_rfl
 z232 := fun _ => by kernel_rfl
 v232 := fun _ => by kernel_rfl
 t233 := by kernel_rfl
 a233 := fun _ => by kernel_rfl
 z233 := fun _ => by kernel_rfl
 v233 := fun _ => by kernel_rfl
 g17 := by kernel_rfl
 g18 := by kernel_rfl
 g19 := by kernel_rfl
 i0 := by kernel_rfl
 i2 := by kernel_rfl
 i3 := by kernel_rfl
 i4 := by kernel_rfl
 i5 := by kernel_rfl
 i9 := by kernel_rfl
 i20 := by kernel_rfl
 i37 := by kernel_rfl
 i46 := by kernel_rfl
 i51 := by kernel_rfl
 i53 := by kernel_rfl
 i171 := by kernel_rfl
 i173 := by kernel_rfl
 i212 := by kernel_rfl
 i232 := by kernel_rfl
 i233 := by kernel_rfl
 m17 := by kernel_rfl
 m18 := by kernel_rfl
 m19 := by kernel_rfl
theorem itoa_any (n : Nat) (hn : n ≤ 100000) (w : World) (htab : Lib.TabIs Tryz.prog w "internal/strconv.uint64pow10" .u64 Lib.pow10Tab) :
  Calls Tryz.prog 76 #[.int .i64 n] w fun e w' => e = .returned (.string (decB n)) ∧ Below w.heap.size w w' := by
 refine (Any.strconv_Itoa itLays (n : Int) (by omega) (by omega) w htab).mono ?_
 rintro e w' ⟨rfl, k, os, rfl⟩
 refine ⟨?_, Lib.below_grow w.heap.size w (Nat.le_refl _) k os⟩
 have : Lib.itoa (n : Int) = Lib.decDigits n := by unfold Lib.itoa; rw [if_neg (by omega)]; simp
 rw [this]; rfl
end Go.Proofs.YtkjdabnglcabiaaGreatDoor
/- impl.FormList writes a list. -/
namespace Go.Proofs.YtkjdabnglcabiaaGreatDoor
open Go.RowKit
theorem isBuilder_below {T : TypeId} {B b : Nat} {bs : List Value} {w w' : World} (h : Lib.IsBuilder T 5 B b bs w) (hb : Below w.heap.size w w') : Lib.IsBuilder T 5 B b bs w' := by
 rcases h with ⟨h1, v, h2, h3, h4⟩ | ⟨h1, v, h2, h3, h4⟩
 ·exact .inl ⟨h1, v, (hb.block b (Array.getElem?_eq_some_iff.1 h2).1).trans h2, Below.row hb h3, h4⟩
 ·exact .inr ⟨h1, v, (hb.block b (Array.getElem?_eq_some_iff.1 h2).1).trans h2, Below.row hb h3, h4⟩
theorem line_cells (d : ByteArray) : Lib.strCells (d ++ ⟨#[10]⟩) = Lib.strCells d ++ [.int .u8 10] := by
 rw [app_mk]
 simp [Lib.strCells]
theorem tab_below {w w' : World} (h : Lib.TabIs Tryz.prog w "internal/strconv.uint64pow10" .u64 Lib.pow10Tab) (hb : Below w.heap.size w w') : Lib.TabIs Tryz.prog w' "internal/strconv.uint64pow10" .u64 Lib.pow10Tab :=
 Go.Joins.var_stays (g := 3) (by kernel_rfl) h hb (Nat.le_refl _)
set_option maxRecDepth 100000 in
set_option maxHeartbeats 1000000 in
theorem implFormList_any (n : Int) (v : Value) (ss : List ByteArray) (m : Int) (w : World) (hv : Reads w v ss) (hl : ss.length ≤ maxLen) (hsz : ∀ i, (ss.getD i ByteArray.empty).size ≤ maxLen) (htab : Lib.TabIs Tryz.prog w "internal/strconv.uint64pow10" .u64 Lib.pow10Tab) :
  Calls Tryz.prog 45 #[.agg #[.int .i64 n, v], .int .i64 m] w fun e w' => e = .returned (.string (formR n ss m)) ∧ Below w.heap.size w w' := by
 have hnew : LBox (w.alloc (.cells #[.int .i64 n, v] 54)) w.heap.size n v := World.alloc_heap_new w _
 have hb0 := (Below.refl w.heap.size w).alloc (Nat.le_refl _) (.cells #[.int .i64 n, v] 54)
 have HOK := hid (isList_any n v ss m _ (hv.below hb0) hl hsz)
 have HS0 := hid (hv.below hb0)
 obtain ⟨a, ca, rfl, _⟩ := hv.form
 have HNEW := hid hnew
 have HB0 := hid hb0
 have HTAB := hid htab
 clear hv hnew hb0 htab
 cases hok : okL n ss m with
 | false =>
  have e : formR n ss m = ⟨#[]⟩ := by simp [formR, hok]
  rw [e]; clear e
  rw [hok] at HOK
  go_enter Tryz.func45, Tryz.ntmps45
  go_wp2_with (go_at_call 74; refine HOK.out.mono ?_; rintro e w1 ⟨rfl, hb1⟩)
  go_ret
  exact ⟨rfl, HB0.out.trans (hb1.mono (by simp))⟩
 | true =>
  rw [hok] at HOK
  have hparts : isW m = true ∧ (0 ≤ n ∧ n ≤ 3000) ∧ ss.length ≤ 375 ∧ ∀ s ∈ ss, (s.size : Int) = m := by
   unfold okL at hok
   simp only [Bool.and_eq_true, decide_eq_true_eq, List.all_eq_true] at hok
   exact ⟨hok.1, hok.2.1, hok.2.2.1, hok.2.2.2⟩
  obtain ⟨hwm, ⟨h0, h3⟩, h375, hall⟩ := hparts
  obtain ⟨nn, rfl⟩ := Int.eq_ofNat_of_zero_le h0
  have hm8 : 1 ≤ m ∧ m ≤ 8 := by simpa [isW] using hwm
  have HRES : Hid (formR (nn : Int) ss m = ⟨(headL nn ++ rowsL ss).toArray⟩) := by
   show _ = _
   simp [formR, hok, formL]
  have HSZ : Hid (∀ k, k < ss.length → (ss.getD k ByteArray.empty).size ≤ 8) := fun k hk => by
   rw [List.getD_eq_getElem?_getD, List.getElem?_eq_getElem hk]
   have := hall _ (List.getElem_mem hk)
   simp only [Option.getD_some]
   omega
  have HLEN : Hid (∀ k, (fc nn ss k).length ≤ 100000) := fun k => by
   have h1 := rowsL_len 8 (ss.take k) (fun s hs => by have := hall s (List.mem_of_mem_take hs); omega)
   have h2 := decB_len4 nn (by omega)
   have h4 : (ss.take k).length ≤ 375 := by rw [List.length_take]; omega
   unfold fc
   rw [Lib.byteCells_length, List.length_append]
   unfold headL
   simp only [List.length_append, List.length_cons, List.length_nil]
   have h5 : (ss.take k).length * (2 * 8 + 1) ≤ 375 * 17 := Nat.mul_le_mul h4 (by omega)
   omega
  obtain ⟨r, hr⟩ : ∃ r, r = formR (nn : Int) ss m := ⟨_, rfl⟩
  rw [← hr]
  rw [← hr] at HRES
  have HIT := hid fun W (h : Lib.TabIs Tryz.prog W "internal/strconv.uint64pow10" .u64 Lib.pow10Tab) => itoa_any nn (by omega) W h
  have hdz : (decB nn).size ≤ 3001 := by have := decB_len nn nn (Nat.le_refl _); omega
  have HHEAD := hid (head_text nn)
  clear hr hok hall hwm hsz
  generalize decB nn = dec at *
  go_enter Tryz.func45, Tryz.ntmps45
  go_wp2_with fail
  refine HOK.out.mono ?_
  rintro e w1 ⟨rfl, hb1⟩
  have hbx : Below w1.heap.size w1 (w1.alloc (.cells #[.pointer none, .slice none 0 0] 115)) := (Below.refl _ _).alloc (Nat.le_refl _) _
  have HXA := hid (HNEW.out.below hb1)
  have HSA := hid (HS0.out.below hb1)
  have x1 := HXA.out.below hbx
  have hc0 := x1.c0
  have hc1 := x1.c1
  have HS1 := hid ((HS0.out.below hb1).below hbx)
  have HB1 := hid (HB0.out.trans (hb1.mono (by simp)))
  have HT1 := hid (tab_below (tab_below (tab_below HTAB.out HB0.out) hb1) hbx)
  have HX1 := hid x1
  have HD1 := hid (Lib.fresh_isBuilder 115 5 w1)
  have HBX := hid hbx
  clear hb1 x1 HS0 HB0 HNEW HOK hbx HTAB
  go_wp2_with fail
  refine (HIT.out _ HT1.out).mono ?_
  rintro e w2 ⟨rfl, hb2⟩
  have x2 := HX1.out.below hb2
  have HX2 := hid x2
  have HS2 := hid (HS1.out.below hb2)
  have HB12 := hid (HBX.out.trans (hb2.mono (by simp)))
  have hw2 := HB12.out.size
  have HW := hid (writeString_any w1.heap.size w1.heap.size [] ((⟨#[115, 105, 122, 101, 32]⟩ : ByteArray) ++ dec ++ ⟨#[10]⟩) w2 (isBuilder_below HD1.out hb2) (by rw [ByteArray.size_append, ByteArray.size_append]; show 0 + (5 + dec.size + 1) ≤ _; omega) hw2)
  have hS : [] ++ Lib.strCells ((⟨#[115, 105, 122, 101, 32]⟩ : ByteArray) ++ dec ++ ⟨#[10]⟩) = fc nn ss 0 := by
   rw [HHEAD.out]
   simp [fc, Lib.strCells, Lib.byteCells, rowsL]
  rw [hS] at HW
  have hzz : 5 + dec.size + 1 ≤ 9223372036854775807 := by omega
  clear hb2 x2 hS HD1 HT1 HBX HX1 HS1 hc0 hc1 HHEAD
  go_wp2_with fail
  refine HW.out.mono ?_
  rintro e w3 ⟨rfl, hbd3, hb3⟩
  have HD3 := hid hbd3
  have HB13 := hid (HB12.out.trans hb3)
  have x3 := HXA.out.below HB13.out
  have hc3 := x3.c1
  clear hbd3 hb3 x3 HW HB12 HX2 HS2 hw2
  go_wp2
  go_loopw [21] (fun i wr => ∃ k : Nat, k ≤ ss.length ∧ i = .int .i64 k ∧ Lib.IsBuilder 115 5 w1.heap.size w1.heap.size (fc nn ss k) wr ∧ Below w1.heap.size w1 wr) (fun i _ => ss.length - (intOf i).toNat)
  case atStart => exact ⟨0, Nat.zero_le _, rfl, .inr HD3.out, HB13.out⟩
  case round =>
   obtain ⟨k, hk, rfl, hbd, hbl⟩ := hrel
   by_cases hlt : k < ss.length
   ·obtain ⟨_, _, e1, hcs⟩ := (HSA.out.below hbl).form
    simp only [Value.slice.injEq] at e1
    obtain ⟨rfl, _, rfl⟩ := e1
    obtain ⟨b1, o1, rfl, hb1, hd1⟩ := hcs k hlt
    have hs8 := HSZ.out k hlt
    have HDG := hid fun W => digitsOf_any (ss.getD k ByteArray.empty) W (by omega)
    have HC := hid (cells_rows nn ss k hlt)
    have hL := HLEN.out k
    have hLl : (hexB (ss.getD k ByteArray.empty)).size ≤ 16 := by
     show (hexL _).toArray.size ≤ 16
     rw [List.size_toArray, hexL_len, Array.length_toList]
     show 2 * (ss.getD k ByteArray.empty).size ≤ 16
     omega
    generalize ss.getD k ByteArray.empty = s at *
    generalize hexB s = hx at *
    have HBD := hid hbd
    have HBL := hid hbl
    clear hbd hbl hcs
    go_wp2_with fail
    refine (HDG.out _).mono ?_
    rintro e w4 ⟨rfl, hb4⟩
    have HB4 := hid (HBL.out.trans (hb4.mono HBL.out.size))
    have HW := hid (writeString_any w1.heap.size w1.heap.size (fc nn ss k) (hx ++ ⟨#[10]⟩) w4 (isBuilder_below HBD.out hb4) (by rw [ByteArray.size_append]; show _ + (hx.size + 1) ≤ _; omega) HB4.out.size)
    rw [line_cells, ← List.append_assoc, ← HC.out] at HW
    clear hb4
    go_wp2_with fail
    refine HW.out.mono ?_
    rintro e w5 ⟨rfl, hbd5, hb5⟩
    have HD5 := hid hbd5
    have HB5 := hid (HB4.out.trans hb5)
    clear hbd5 hb5
    go_wp2
    go_roundw
    case rel => exact ⟨k + 1, by omega, by go_num, .inr HD5.out, HB5.out⟩
    case measure => simp [intOf]; omega
   ·obtain rfl : k = ss.length := by omega
    have e : fc nn ss ss.length = Lib.byteCells (headL nn ++ rowsL ss) := by unfold fc; rw [List.take_length]
    rw [e] at hbd
    have HST := hid (builderString_any w1.heap.size w1.heap.size _ wr hbd hbl.size)
    have HBL := hid hbl
    clear hbd hbl e
    go_wp2_with fail
    refine HST.out.mono ?_
    rintro e w6 ⟨rfl, hb6⟩
    have HB6 := hid (HB1.out.trans ((HBL.out.trans hb6).mono HB1.out.size))
    clear hb6
    go_wp2
    go_ret
    refine ⟨?_, HB6.out⟩
    rw [HRES.out]; rfl
end Go.Proofs.YtkjdabnglcabiaaGreatDoor
