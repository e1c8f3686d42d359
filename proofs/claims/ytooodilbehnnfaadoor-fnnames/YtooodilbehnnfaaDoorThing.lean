/- l2Thing draws a text. -/
import Derived.Test.YtooodilbehnnfaaDoorMany
import Derived.Test.YtooodilbehnnfaaDoorCut
namespace Go.Proofs.YtooodilbehnnfaaDoor
open Go.RowKit
theorem grown_below {w w' : World} {rb : Nat} (hg : w.grownBy w' (some rb)) (h : rb < w.heap.size) : Below rb w w' :=
  (Below.refl rb w).grown hg (by omega) (fun k e => by cases e; exact Nat.le_refl _)
theorem grown_thing {A B C : World} {o : Option Nat} (h : A.grownBy B o) (k : B.grownBy C o) : A.grownBy C o :=
  ⟨k.os.trans h.os, k.tape.trans h.tape, k.output.trans h.output, Nat.le_trans h.size k.size, fun j hj hne => (k.block j (Nat.lt_of_lt_of_le hj h.size) hne).trans (h.block j hj hne)⟩
theorem Tryd.info5 : (Tryd.prog.info? 5).map (fun i => (i.zero, i.size, i.bytes)) = some (some (.int .u8 0), 1, 1) := by kernel_rfl
theorem conv_row {w : World} {base k : Nat} {v : Value} {ys : List Int} (h : w.ownsRow base 5 1 v k (ys.map (Value.int .u8))) :
    (convert 33 9 v).run Tryd.prog w = .ok (.string (strOfNums ys)) w := by
  have hl : ys.length = k := by have := h.1; simpa using this
  rcases h with ⟨h1, ⟨rfl, rfl⟩ | ⟨g, cap, cur, rfl, hb, hg, hn, hm, hs, hx⟩⟩
  · have : ys = [] := List.eq_nil_of_length_eq_zero hl
    subst this
    exact run_convert_bytes_nil w 33 5 Tryd.underlying33 Tryd.underlying5 0 0 9 Tryd.underlying9
  · have hr : w.ownsRow base 5 1 (.slice (some ⟨g, 0, none⟩) k cap) k (ys.map (Value.int .u8)) := ⟨h1, .inr ⟨g, cap, cur, rfl, hb, hg, hn, hm, hs, hx⟩⟩
    refine run_convert_bytes_arg w 33 5 Tryd.underlying33 Tryd.underlying5 g 0 k cap ys hl (fun i hi => ?_) 9 Tryd.underlying9
    rw [Nat.zero_add, hr.cellAt i (by omega)]
    have : i < ys.length := by omega
    simp [this]
set_option maxRecDepth 100000 in
set_option maxHeartbeats 2000000 in
theorem l2Thing_own (rb : Nat) (a : Option Addr) (nn cap : Nat) (bs : List Int) (p : Nat) (w : World) (h : Rd w rb a nn cap bs p) (hp : p ≤ 900000) :
    Calls Tryd.prog 34 #[.pointer (some ⟨rb, 0, none⟩)] w fun e w' => ∃ t : ByteArray, e = .returned (.string t) ∧ t.size ≤ 3000 ∧ ∃ p', p' ≤ p + 5 ∧ Rd w' rb a nn cap bs p' ∧ w.grownBy w' (some rb) := by
  have HP := hid fun (q : Nat) (n : Int) (W : World) (hr : Rd W rb a nn cap bs q) (h1 : 1 ≤ n) (h2 : n ≤ 100000) (hq : q ≤ 1000000) => pick_any rb a nn cap bs q n W hr h1 h2 hq
  go_enter Tryd.func34, Tryd.ntmps34
  go_wp2_with fail
  refine (HP.out p 10 _ h (by omega) (by omega) (by omega)).mono ?_
  rintro e w1 ⟨x, rfl, hx, hr1, hg1⟩
  have hb1 := grown_below hg1 h.lt
  have HG1 := hid hg1
  have hwB := hg1.size
  have hx4 : x = 0 ∨ x = 1 ∨ x = 2 ∨ x = 3 ∨ 4 ≤ x := by omega
  have HR := hid hr1
  clear hr1 h
  rcases hx4 with rfl | rfl | rfl | rfl | hx4
  · go_wp2
    go_ret
    exact ⟨_, rfl, by simp [ByteArray.size], p + 1, by omega, HR.out, HG1.out⟩
  · go_wp2_with fail
    refine (HP.out (p + 1) 200 _ HR.out (by omega) (by omega) (by omega)).mono ?_
    rintro e w2 ⟨y, rfl, hy, hr2, hg2⟩
    have HG2 := hid (grown_thing HG1.out hg2)
    have HR2 := hid hr2
    clear hr2
    go_wp2_with fail
    refine (l1Many_any ⟨#[122]⟩ y _ (by decide) (by omega)).mono ?_
    rintro e w3 ⟨t, rfl, ht, rfl⟩
    go_wp2
    go_ret
    exact ⟨t, rfl, Nat.le_trans ht (by show 1 * y ≤ 3000; omega), p + 1 + 1, by omega, HR2.out, HG2.out⟩
  · go_wp2_with fail
    refine (HP.out (p + 1) 30 _ HR.out (by omega) (by omega) (by omega)).mono ?_
    rintro e w2 ⟨y, rfl, hy, hr2, hg2⟩
    have HG2 := hid (grown_thing HG1.out hg2)
    have HR2 := hid hr2
    clear hr2
    go_wp2_with fail
    refine (l1Many_any ⟨#[97, 98, 99, 100, 101, 102, 103, 104, 105, 106]⟩ y _ (by decide) (by omega)).mono ?_
    rintro e w3 ⟨t, rfl, ht, rfl⟩
    go_wp2
    go_ret
    exact ⟨t, rfl, Nat.le_trans ht (by show 10 * y ≤ 3000; omega), p + 1 + 1, by omega, HR2.out, HG2.out⟩
  · go_wp2_with fail
    refine (HP.out (p + 1) 2 _ HR.out (by omega) (by omega) (by omega)).mono ?_
    rintro e w2 ⟨y, rfl, hy, hr2, hg2⟩
    have HG2 := hid (grown_thing HG1.out hg2)
    have HR2 := hid hr2
    clear hr2
    go_wp2_with fail
    rw [show (3000 : Int) - (y : Int) = ((3000 - y : Nat) : Int) by omega]
    refine (l1Many_any ⟨#[109]⟩ (3000 - y) _ (by decide) (by omega)).mono ?_
    rintro e w3 ⟨t, rfl, ht, rfl⟩
    go_wp2
    go_ret
    exact ⟨t, rfl, Nat.le_trans ht (by show 1 * (3000 - y) ≤ 3000; omega), p + 1 + 1, by omega, HR2.out, HG2.out⟩
  · have h0 : ((x : Int) == 0) = false := by simp; omega
    have h1 : ((x : Int) == 1) = false := by simp; omega
    have h2 : ((x : Int) == 2) = false := by simp; omega
    have h3 : ((x : Int) == 3) = false := by simp; omega
    have ho1 : (w1.alloc (.cells #[] 5)).ownsRow w1.heap.size 5 1 (.slice (some ⟨w1.heap.size, 0, none⟩) 0 0) 0 [] := World.ownsRow_made w1 #[] 0 (Nat.le_refl _) (by simp [maxLen]) rfl
    have hr1 : Rd (w1.alloc (.cells #[] 5)) rb a nn cap bs (p + 1) := HR.out.keep ((Below.refl (rb + 1) w1).alloc HR.out.lt _)
    have hb1' : Below rb w (w1.alloc (.cells #[] 5)) := hb1.alloc (Nat.le_of_lt HR.out.lt) _
    have hlt := HR.out.lt
    have HO1 := hid ho1
    have HR1 := hid hr1
    have HB1 := hid hb1'
    have HGA := hid (grown_thing HG1.out (World.grownBy_alloc w1 (.cells #[] 5) (some rb)))
    clear ho1 hr1 hb1' hb1 hg1
    go_wp2_with fail
    refine (HP.out (p + 1) 200 _ HR1.out (by omega) (by omega) (by omega)).mono ?_
    rintro e w2 ⟨y1, rfl, hy1, hr2, hg2⟩
    have HO2 := hid (HO1.out.kept hg2 (.inr (fun e => by simp [Value.ownBlock] at e; omega)))
    have HB2 := hid (HB1.out.trans (grown_below hg2 HR1.out.lt))
    have HR2 := hid hr2
    have HG2x := hid (grown_thing HGA.out hg2)
    clear hr2 hg2
    go_wp2_with fail
    refine (HP.out (p + 1 + 1) 200 _ HR2.out (by omega) (by omega) (by omega)).mono ?_
    rintro e w3 ⟨y2, rfl, hy2, hr3, hg3⟩
    have HO3 := hid (HO2.out.kept hg3 (.inr (fun e => by simp [Value.ownBlock] at e; omega)))
    have HB3 := hid (HB2.out.trans (grown_below hg3 HR2.out.lt))
    have HR3 := hid hr3
    have HG3x := hid (grown_thing HG2x.out hg3)
    clear hr3 hg3
    go_wp2_with fail
    refine (HP.out (p + 1 + 1 + 1) 256 _ HR3.out (by omega) (by omega) (by omega)).mono ?_
    rintro e w4 ⟨y3, rfl, hy3, hr4, hg4⟩
    have HO4 := hid (HO3.out.kept hg4 (.inr (fun e => by simp [Value.ownBlock] at e; omega)))
    have HB4 := hid (HB3.out.trans (grown_below hg4 HR3.out.lt))
    have HR4 := hid hr4
    have HG4x := hid (grown_thing HG3x.out hg4)
    clear hr4 hg4
    go_wp2_with fail
    refine (HP.out (p + 1 + 1 + 1 + 1) 256 _ HR4.out (by omega) (by omega) (by omega)).mono ?_
    rintro e w5 ⟨y4, rfl, hy4, hr5, hg5⟩
    have HO5 := hid (HO4.out.kept hg5 (.inr (fun e => by simp [Value.ownBlock] at e; omega)))
    have HB5 := hid (HB4.out.trans (grown_below hg5 HR4.out.lt))
    have HR5 := hid hr5
    have HG5x := hid (grown_thing HG4x.out hg5)
    clear hr5 hg5 HO1 HO2 HO3 HO4 HR1 HR2 HR3 HR4 HB1 HB2 HB3 HB4 HP HR HGA HG2x HG3x HG4x
    generalize w1.heap.size = B at *
    have hB5 : B < w5.heap.size := (HO5.out.lt B rfl).2
    obtain ⟨i0, hi, hz0, hz1, hz2⟩ := info_parts Tryd.info5
    go_wp2
    go_loopw [3, 5, 6] (fun v z i wr => ∃ (k zz : Nat) (ys : List Int), k ≤ y1 + y2 ∧ ys.length = k ∧ i = .int .i64 k ∧ z = .int .i64 zz ∧ zz ≤ 100000 ∧ wr.ownsRow B 5 1 v k (ys.map (Value.int .u8)) ∧ Below B w5 wr) (fun _ _ i _ => y1 + y2 - (intOf i).toNat)
    case atStart => exact ⟨0, y3 * 256 + y4 + 1, [], Nat.zero_le _, rfl, rfl, by go_num, by omega, by simpa using HO5.out, Below.refl _ _⟩
    case round =>
      obtain ⟨k, zz, ys, hk, hyl, rfl, rfl, hzz, hrow, hbl⟩ := hrel
      by_cases hlk : k < y1 + y2
      · have HL := hid hyl
        clear hyl
        go_wp2_with (at_builtin; refine wpList_append_own _ rfl _ _ 33 rfl B 5 i0 (.int .u8 0) 1 1 Tryd.underlying33 hi hz0 hz1 hz2 rfl (by decide) _ _ _ rfl (hrow.alloc _) ⟨wr.heap.size, 0, none⟩ 1 1 [.int .u8 (97 + ((zz : Int) * 4005 + 7) % 65521 / 7 % 26)] rfl rfl (cell_one_new _ _ _) (by simp [Value.oneCell']) (by unfold maxLen; omega) (by omega) (by have := hbl.size; simp; omega) ?_; intro v' w6 hown' hgrow _)
        refine ⟨⟨k + 1, (zz * 4005 + 7) % 65521, ys ++ [97 + ((zz : Int) * 4005 + 7) % 65521 / 7 % 26], by omega, by simp [HL.out], by go_num, by go_num, by omega, by simpa using hown', append_below hbl hrow hgrow (by have := hbl.size; omega)⟩, by simp [intOf]; omega⟩
      · obtain rfl : k = y1 + y2 := by omega
        have hcv := conv_row hrow
        go_wp2
        go_ret
        refine ⟨_, rfl, ?_, p + 5, by omega, ?_, ?_⟩
        · rw [strOfNums_size]; omega
        · exact HR5.out.keep (hbl.mono (by omega))
        · exact ⟨hbl.os.trans HG5x.out.os, hbl.tape.trans HG5x.out.tape, hbl.output.trans HG5x.out.output, Nat.le_trans HG5x.out.size hbl.size, fun k hk hn => (hbl.block k (by omega)).trans (HG5x.out.block k hk hn)⟩
theorem l2Thing_any (rb : Nat) (a : Option Addr) (nn cap : Nat) (bs : List Int) (p : Nat) (w : World) (h : Rd w rb a nn cap bs p) (hp : p ≤ 900000) :
    Calls Tryd.prog 34 #[.pointer (some ⟨rb, 0, none⟩)] w fun e w' => ∃ t : ByteArray, e = .returned (.string t) ∧ t.size ≤ 3000 ∧ ∃ p', p' ≤ p + 5 ∧ Rd w' rb a nn cap bs p' ∧ Below rb w w' :=
  (l2Thing_own rb a nn cap bs p w h hp).mono fun _ _ ⟨t, h1, h2, p', h3, h4, h5⟩ => ⟨t, h1, h2, p', h3, h4, grown_below h5 h.lt⟩
end Go.Proofs.YtooodilbehnnfaaDoor
