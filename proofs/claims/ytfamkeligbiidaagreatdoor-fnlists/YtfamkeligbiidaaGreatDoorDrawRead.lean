/- DrawReadList. -/
import Derived.Test.YtfamkeligbiidaaGreatDoorBend
import Derived.Test.YtfamkeligbiidaaGreatDoorNumber
namespace Go.Proofs.YtfamkeligbiidaaGreatDoor
open Go.RowKit
theorem formR_len (n m : Int) (ss : List ByteArray) : (formR n ss m).size ≤ 7000 := by
  unfold formR
  split
  · next h =>
    unfold okL at h
    simp only [Bool.and_eq_true, decide_eq_true_eq, List.all_eq_true] at h
    obtain ⟨hw, hn, hl, hall⟩ := h
    have hm8 : 1 ≤ m ∧ m ≤ 8 := by simpa [isW] using hw
    show (formL n.toNat ss).toArray.size ≤ 7000
    rw [List.size_toArray]
    have h1 := rowsL_len 8 ss (fun x hx => by have := hall x hx; omega)
    have h2 := dec_len4 n.toNat (by omega)
    have h5 : ss.length * (2 * 8 + 1) ≤ 375 * 17 := Nat.mul_le_mul hl (by omega)
    unfold formL headL
    simp only [List.length_append, List.length_cons, List.length_nil]
    omega
  · simp [ByteArray.size]
set_option maxRecDepth 100000 in
set_option maxHeartbeats 1000000 in
theorem drawReadList_any (a : Option Addr) (n cap : Nat) (zs : List Int) (w : World) (h : BytesIn w a n cap zs) (hn : n ≤ maxLen) :
    Calls Tryz.prog 15 #[.slice a n cap] w fun e w' => ∃ (s : ByteArray) (z : Int), e = .returned (.tuple #[.string s, .int .i64 z]) ∧ s.size ≤ 14001 ∧ Below w.heap.size w w' := by
  go_enter Tryz.func15, Tryz.ntmps15
  go_wp2_with fail
  refine (l1Open_any a n cap zs _ h hn).mono ?_
  rintro e w1 ⟨rfl, nn, bs, hr1, hb1⟩
  have HR1 := hid hr1
  have HB1 := hid hb1
  clear hr1 hb1 h
  go_wp2_with fail
  refine (l1DrawWidth_any w.heap.size a nn cap bs 0 _ HR1.out (by omega)).mono ?_
  rintro e w2 ⟨z, rfl, hr2, hb2⟩
  have HR2 := hid hr2
  have HB2 := hid (HB1.out.trans hb2)
  clear hr2 hb2 HR1 HB1
  go_wp2_with fail
  refine (l2Thing_any w.heap.size a nn cap bs (0 + 1) _ HR2.out (by omega)).mono ?_
  rintro e w3 ⟨t, rfl, ht, p3, hp3, hr3, hb3⟩
  have HR3 := hid hr3
  have HB3 := hid (HB2.out.trans hb3)
  clear hr3 hb3 HR2 HB2
  have hdl := descS_len t z
  have HD := hid fun W => specDescribe_any t z W (by unfold maxLen; omega)
  have HF := hid fun W v (h : Reads W v (descS t z)) => specFormList_any (descN t z) v (descS t z) z W h (by unfold maxLen; omega) (descS_size t z)
  have hfl := formR_len (descN t z) z (descS t z)
  generalize formR (descN t z) (descS t z) z = fr at *
  generalize descS t z = ds at *
  generalize descN t z = dn at *
  go_wp2_with fail
  refine (HD.out _).mono ?_
  rintro e w4 ⟨v4, rfl, ho4, hb4⟩
  have HR4 := hid (HR3.out.keep (hb4.mono HR3.out.lt))
  have HB4 := hid (HB3.out.trans (hb4.mono HB3.out.size))
  have HO4 := hid ho4
  clear ho4 hb4 HR3 HB3
  go_wp2_with fail
  refine (HF.out _ _ (Reads.of_row HO4.out)).mono ?_
  rintro e w5 ⟨rfl, hb5⟩
  have HR5 := hid (HR4.out.keep (hb5.mono HR4.out.lt))
  have HB5 := hid (HB4.out.trans (hb5.mono HB4.out.size))
  clear hb5 HR4 HB4 HO4 HD HF
  go_wp2_with fail
  refine (pick_any w.heap.size a nn cap bs p3 2 _ HR5.out (by omega) (by omega) (by omega)).mono ?_
  rintro e w6 ⟨x, rfl, hx, hr6, hg6⟩
  have HB6 := hid (HB5.out.trans (grown_below hg6 HR5.out.lt))
  have HR6 := hid hr6
  clear hr6 hg6 HR5 HB5
  by_cases hx0 : x = 0
  · subst hx0
    go_wp2_with fail
    refine (l1Bend_any w.heap.size a nn cap bs (p3 + 1) fr _ HR6.out (by omega) hfl).mono ?_
    rintro e w7 ⟨u, rfl, hu, hg7⟩
    have HB7 := hid (HB6.out.trans (grown_below hg7 HR6.out.lt))
    clear hg7
    go_wp2
    go_ret2
    exact ⟨u, z, rfl, hu, HB7.out⟩
  · have hx0' : ((x : Int) == 0) = false := by simp; omega
    go_wp2
    go_ret2
    exact ⟨fr, z, rfl, by omega, HB6.out⟩
end Go.Proofs.YtfamkeligbiidaaGreatDoor
