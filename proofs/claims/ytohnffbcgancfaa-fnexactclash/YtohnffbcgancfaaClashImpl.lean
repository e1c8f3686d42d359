/- impl.Clash answers as spec.Clash. -/
import Derived.Test.YtohnffbcgancfaaClashSpec
import Derived.Test.YtohnffbcgancfaaClashKey
import Derived.Test.YtohnffbcgancfaaClone
import Derived.Maps.Views
namespace Go.Proofs.Ytohnffbcgancfaa
open Go.RowKit
/-- The map holds, for each sum among the first j texts, the first place of it. -/
def FA (D : DataW Unit) (ts : List ByteArray) (m j : Nat) : Prop :=
  ∀ s : ByteArray, (Maps.has D (lk s m) = false ∧ ∀ i, i < j → lk (tx ts i) m ≠ lk s m) ∨
    (Maps.has D (lk s m) = true ∧ ∃ i, i < j ∧ (∀ z, D.atKey (lk s m) z = .lit (.int .i64 (i : Int))) ∧ lk (tx ts i) m = lk s m ∧ ∀ i', i' < i → lk (tx ts i') m ≠ lk s m)
theorem FA.nil (ts : List ByteArray) (m : Nat) : FA (.map []) ts m 0 := fun s => .inl ⟨rfl, fun i hi => by omega⟩
theorem FA.seen {D : DataW Unit} {ts : List ByteArray} {m j : Nat} (h : FA D ts m j) (hh : Maps.has D (lk (tx ts j) m) = true) : FA D ts m (j + 1) := by
  intro s
  rcases h s with ⟨h1, h2⟩ | ⟨h1, i, hi, h2, h3, h4⟩
  · refine .inl ⟨h1, fun i hi e => ?_⟩
    rcases Nat.lt_or_eq_of_le (Nat.le_of_lt_succ hi) with h3 | rfl
    · exact h2 i h3 e
    · rw [e, h1] at hh; cases hh
  · exact .inr ⟨h1, i, by omega, h2, h3, h4⟩
theorem FA.put {D : DataW Unit} {ts : List ByteArray} {m j : Nat} (h : FA D ts m j) (hM : Maps.IsMap D) (hh : Maps.has D (lk (tx ts j) m) = false) : FA (D.put (lk (tx ts j) m) (.lit (.int .i64 (j : Int)))) ts m (j + 1) := by
  intro s
  by_cases e : lk s m = lk (tx ts j) m
  · refine .inr ⟨by rw [e]; exact Maps.has_put_same hM (lk_lit _ _) _, j, by omega, fun z => by rw [e]; exact Maps.atKey_put_same hM (lk_lit _ _) _ _, e.symm, fun i hi => ?_⟩
    rcases h (tx ts j) with ⟨_, h2⟩ | ⟨h1, _⟩
    · rw [e]; exact h2 i hi
    · rw [h1] at hh; cases hh
  · rcases h s with ⟨h1, h2⟩ | ⟨h1, i, hi, h2, h3, h4⟩
    · refine .inl ⟨by rw [Maps.has_put_other e]; exact h1, fun i hi e2 => ?_⟩
      rcases Nat.lt_or_eq_of_le (Nat.le_of_lt_succ hi) with h3 | rfl
      · exact h2 i h3 e2
      · exact e e2.symm
    · exact .inr ⟨by rw [Maps.has_put_other e]; exact h1, i, by omega, fun z => by rw [Maps.atKey_put_other e]; exact h2 z, h3, h4⟩
theorem sum_lk (s t : ByteArray) (m : Nat) (h1 : 1 ≤ m) (h8 : m ≤ 8) : ((sumB s (m : Int)).toList == (sumB t (m : Int)).toList) = true ↔ lk s m = lk t m := by
  have hw : isW (m : Int) = true := by simp [isW]; omega
  have e : ∀ x : ByteArray, (sumB x (m : Int)).toList = lowB (fnvList x.data.toList) m := fun x => by
    unfold sumB sumOf
    rw [hw, if_pos rfl, Int.toNat_natCast, ByteArray.toList_mk]
  rw [e, e, beq_iff_eq]
  exact (lk_iff s t m h8).symm
theorem clB_iff (ts : List ByteArray) (m i j : Nat) (h1 : 1 ≤ m) (h8 : m ≤ 8) : clB ts (m : Int) i j = true ↔ lk (tx ts i) m = lk (tx ts j) m ∧ ((tx ts i).toList == (tx ts j).toList) = false := by
  unfold clB; rw [Bool.and_eq_true, sum_lk _ _ m h1 h8, Bool.not_eq_true']
theorem clB_no {ts : List ByteArray} {m i j : Nat} (h1 : 1 ≤ m) (h8 : m ≤ 8) (h : ¬ (lk (tx ts i) m = lk (tx ts j) m ∧ ((tx ts i).toList == (tx ts j).toList) = false)) : clB ts (m : Int) i j = false := by
  cases e : clB ts (m : Int) i j with
  | false => rfl
  | true => exact absurd ((clB_iff ts m i j h1 h8).1 e) h
theorem NoC.fresh {ts : List ByteArray} {m j : Nat} (h1 : 1 ≤ m) (h8 : m ≤ 8) (h : NoC ts (m : Int) j) (hf : ∀ i, i < j → lk (tx ts i) m ≠ lk (tx ts j) m) : NoC ts (m : Int) (j + 1) := by
  intro j1 hj1 i1 hi1
  rcases Nat.lt_or_eq_of_le (Nat.le_of_lt_succ hj1) with h3 | rfl
  · exact h j1 h3 i1 hi1
  · exact clB_no h1 h8 (fun e => hf i1 hi1 e.1)
theorem NoC.again {ts : List ByteArray} {m j i : Nat} (h1 : 1 ≤ m) (h8 : m ≤ 8) (h : NoC ts (m : Int) j) (_hi : i < j) (hk : lk (tx ts i) m = lk (tx ts j) m) (hl : ∀ i', i' < i → lk (tx ts i') m ≠ lk (tx ts j) m) (he : ((tx ts i).toList == (tx ts j).toList) = true) : NoC ts (m : Int) (j + 1) := by
  intro j1 hj1 i1 hi1
  rcases Nat.lt_or_eq_of_le (Nat.le_of_lt_succ hj1) with h3 | rfl
  · exact h j1 h3 i1 hi1
  · refine clB_no h1 h8 (fun ⟨e, e2⟩ => ?_)
    have hge : i ≤ i1 := Nat.le_of_not_lt fun hlt => hl i1 hlt e
    rcases Nat.lt_or_eq_of_le hge with h4 | rfl
    · have h5 := h i1 hi1 i h4
      have h6 : clB ts (m : Int) i i1 = true := by
        rw [clB_iff ts m i i1 h1 h8]
        refine ⟨hk.trans e.symm, ?_⟩
        rw [eq_of_beq he]
        cases e3 : ((tx ts j1).toList == (tx ts i1).toList) with
        | false => rfl
        | true => rw [eq_of_beq e3] at e2; simp at e2
      rw [h5] at h6; cases h6
    · rw [he] at e2; cases e2
theorem wf_mid (n : Int) (h0 : 0 ≤ n) (h1 : n < 1000000000000) : (Lit.int .i64 n).wf = true := by
  simp [Lit.wf, IntKind.min, IntKind.max, IntKind.signed, IntKind.bits]; omega
theorem at_int {D : DataW Unit} {kl : Lit} {z : DataW Unit} {i c : Int} (h1 : D.atKey kl z = .lit (.int .i64 i)) (h2 : D.atKey kl z = .lit (.int .i64 c)) : i = c := by
  rw [h1] at h2; injection h2 with h3; injection h3
theorem zv3 (w : World) : (zeroValue 3).run Try.prog w = .ok (.int .i64 0) w := by kernel_rfl
set_option maxRecDepth 100000 in
set_option maxHeartbeats 2000000 in
theorem implClash_any (va : Value) (ts : List ByteArray) (n : Int) (w : World) (ha : Reads w va ts) (hl : ts.length ≤ maxLen) (hsz : ∀ i, (tx ts i).size ≤ 281474976710656) :
    Calls Try.prog 23 #[va, .int .i64 n] w fun e w' => ∃ x y b, e = .returned (.tuple #[.string x, .string y, .bool b]) ∧ ClRes ts n x y b ∧ Below w.heap.size w w' := by
  unfold maxLen at hl
  obtain ⟨a, ca, rfl, hca⟩ := ha.form
  cases hw : isW n with
  | false =>
    go_enter Try.func23, Try.ntmps23
    go_wp2_with (go_at_call 39; refine (isWidth_any _ _).mono ?_; rintro e w ⟨rfl, rfl⟩)
    go_ret3
    exact ⟨_, _, _, rfl, .inl ⟨rfl, rfl, rfl, .inl hw⟩, Below.refl _ _⟩
  | true =>
    by_cases h2 : 2000 < ts.length
    · have h2' : (2000 : Int) < (ts.length : Int) := by omega
      go_enter Try.func23, Try.ntmps23
      go_wp2_with (go_at_call 39; refine (isWidth_any _ _).mono ?_; rintro e w ⟨rfl, rfl⟩)
      go_ret3
      exact ⟨_, _, _, rfl, .inl ⟨rfl, rfl, rfl, .inr (.inl h2)⟩, Below.refl _ _⟩
    · have h2' : ¬ ((2000 : Int) < (ts.length : Int)) := by omega
      have h12 : 1 ≤ n ∧ n ≤ 8 := by simpa [isW] using hw
      obtain ⟨m, rfl⟩ := Int.eq_ofNat_of_zero_le (show 0 ≤ n by omega)
      obtain ⟨hm1, hm8⟩ : 1 ≤ m ∧ m ≤ 8 := by omega
      have HC : Hid (∀ i, i < ts.length → ∃ b off, a = some ⟨b, off, none⟩ ∧ b < w.heap.size ∧ w.cell? ⟨b, off + i, none⟩ = some (.string (tx ts i))) := hca
      have HW := hid hw
      have HK : Hid (∀ i W, Calls Try.prog 40 #[.string (tx ts i), .int .i64 (m : Int)] W fun e w' => e = .returned (keyV (tx ts i) m) ∧ Below W.heap.size W w') := fun i W => by
        have := keyOf_any (tx ts i) (m : Int) W (Nat.le_trans (hsz i) (by simp [maxLen])) (by omega) (by omega)
        rw [Int.toNat_natCast] at this
        exact this
      have HSZ := hid hsz
      have hmk := make63 ts.length (by omega)
      clear hca ha hsz h12
      go_enter Try.func23, Try.ntmps23
      go_wp2_with (go_at_call 39; refine (isWidth_any _ _).mono ?_; rintro e w ⟨rfl, rfl⟩)
      go_loopw [8, 9, 10, 11, 12, 26] (fun _ _ _ _ _ j' wr => ∃ (j : Nat) (D : DataW Unit), j ≤ ts.length ∧ j' = .int .i64 j ∧ NoC ts (m : Int) j ∧ FA D ts m j ∧ wr.ownsMap Try.prog 57 (plainElem Try.prog 3) w.heap.size j D ∧ Below w.heap.size w wr) (fun _ _ _ _ _ j' _ => ts.length - (intOf j').toNat)
      case atStart => exact ⟨0, .map [], Nat.zero_le _, rfl, fun j hj => by omega, FA.nil ts m, World.ownsMap_made w Try.prog 57 (plainElem Try.prog 3), (Below.refl _ _).alloc (Nat.le_refl _) _⟩
      case round =>
        obtain ⟨j, D, hj, rfl, hno, hfa, hmap, hbl⟩ := hrel
        have HN := hid hno
        have HF := hid hfa
        clear hno hfa
        by_cases hjl : j < ts.length
        · obtain ⟨b, o, rfl, hbw, hcj⟩ := HC.out j hjl
          have hcj1 : wr.cell? ⟨b, o + j, none⟩ = some (.string (tx ts j)) := (hbl.cell (p := ⟨b, o + j, none⟩) hbw).trans hcj
          have hbs := hbl.size
          obtain ⟨c0, c1, c2, c3, c4, c5, c6, c7, hE⟩ := keyC_lit (fnvList (tx ts j).data.toList) m m
          have hkey := lk_key (tx ts j) m
          have HKj := hid (HK.out j)
          unfold keyV at hkey HKj
          rw [hE] at hkey HKj
          have hsz1 := HSZ.out j
          have HFj := hid (HF.out (tx ts j))
          generalize htj : tx ts j = tj at *
          have HTJ := hid htj
          generalize hlk : lk tj m = kl at *
          have HLK := hid hlk
          clear hE hcj htj hlk
          rcases HFj.out with ⟨hh, hnew⟩ | ⟨hh, i, hij, hat, hke, hleast⟩
          · have HNEW := hid hnew
            clear hnew
            go_wp2_with (first | (go_at_call 40; refine (HKj.out _).mono ?_; rintro e w1 ⟨rfl, hb1⟩; have hmap1 := hmap.kept (grown_of_below hb1) (by simp)) | (at_lookup; refine wpList_lookup_own_ok_int _ rfl _ _ 74 rfl 57 3 .i64 keyed46 Try.underlying74 Try.underlying3 (zv3 _) w.heap.size j D rfl (hmap1.alloc _) _ _ rfl hkey ?_; intro c hat2 hwc) | (at_mapUpdate; refine wpList_mapUpdate_own _ rfl _ _ _ 74 rfl 57 3 keyed46 Try.underlying74 (plainElem Try.prog 3) w.heap.size j D rfl (hmap1.alloc _) (by unfold maxLen; omega) _ _ _ rfl rfl hkey (.lit (.int .i64 (j : Int))) [] (plainElem_int Try.underlying3 (wf_mid _ (by omega) (by omega))) ?_; intro w3 hown3 hgrow3))
            have hbl1 : Below w.heap.size w w1 := hbl.trans (hb1.mono hbs)
            refine ⟨⟨j + 1, D.put kl (.lit (.int .i64 (j : Int))), by omega, by go_num, NoC.fresh hm1 hm8 HN.out (fun i hi => by rw [HTJ.out, HLK.out]; exact HNEW.out i hi), ?_, hown3, ?_⟩, by simp [intOf]; omega⟩
            · have := FA.put HF.out (by obtain ⟨es, cl, _, _, _, e⟩ := hmap; exact ⟨_, e⟩) (by rw [HTJ.out, HLK.out]; exact hh)
              rw [HTJ.out, HLK.out] at this; exact this
            · exact (hbl1.alloc hbl1.size _).grown hgrow3 (by have := hbl1.size; simp; omega) (fun k e => by cases e; exact Nat.le_refl _)
          · obtain ⟨b', o', e', _, hci⟩ := HC.out i (by omega)
            cases e'
            have hci1 : wr.cell? ⟨b, o + i, none⟩ = some (.string (tx ts i)) := (hbl.cell (p := ⟨b, o + i, none⟩) hbw).trans hci
            have hszi := HSZ.out i
            have HKE := hid hke
            have HLE := hid hleast
            have HAT := hid (hat (.lit (.int .i64 0)))
            generalize hti : tx ts i = ti at *
            have HTI := hid hti
            clear hci hke hleast hat hti
            have hbwr : b < wr.heap.size := by omega
            cases dT : (ti.toList == tj.toList) with
            | true =>
              go_wp2_with (first | (go_at_call 40; refine (HKj.out _).mono ?_; rintro e w1 ⟨rfl, hb1⟩; have hmap1 := hmap.kept (grown_of_below hb1) (by simp); have hci2 := (hb1.cell (p := ⟨b, o + i, none⟩) hbwr).trans hci1; have hbw1 : b < w1.heap.size := Nat.lt_of_lt_of_le hbwr hb1.size) | (at_lookup; refine wpList_lookup_own_ok_int _ rfl _ _ 74 rfl 57 3 .i64 keyed46 Try.underlying74 Try.underlying3 (zv3 _) w.heap.size j D rfl (hmap1.alloc _) _ _ rfl hkey ?_; intro c hat2 hwc; obtain rfl := at_int HAT.out hat2))
              have hbl1 : Below w.heap.size w w1 := hbl.trans (hb1.mono hbs)
              refine ⟨⟨j + 1, D, by omega, by go_num, NoC.again (i := i) hm1 hm8 HN.out hij (by rw [HTI.out, HTJ.out, HLK.out]; exact HKE.out) (fun i' hi' => by rw [HTJ.out, HLK.out]; exact HLE.out i' hi') (by rw [HTI.out, HTJ.out]; exact dT), FA.seen HF.out (by rw [HTJ.out, HLK.out]; exact hh), (hmap1.mono (Nat.le_succ j)).alloc _, hbl1.alloc hbl1.size _⟩, by simp [intOf]; omega⟩
            | false =>
              go_wp2_with (first | (go_at_call 40; refine (HKj.out _).mono ?_; rintro e w1 ⟨rfl, hb1⟩; have hmap1 := hmap.kept (grown_of_below hb1) (by simp); have hci2 := (hb1.cell (p := ⟨b, o + i, none⟩) hbwr).trans hci1; have hbw1 : b < w1.heap.size := Nat.lt_of_lt_of_le hbwr hb1.size) | (at_lookup; refine wpList_lookup_own_ok_int _ rfl _ _ 74 rfl 57 3 .i64 keyed46 Try.underlying74 Try.underlying3 (zv3 _) w.heap.size j D rfl (hmap1.alloc _) _ _ rfl hkey ?_; intro c hat2 hwc; obtain rfl := at_int HAT.out hat2))
              refine (stringsClone_any ti _ hszi).mono ?_
              rintro e w4 ⟨rfl, hb4⟩
              go_wp2_with fail
              refine (stringsClone_any tj _ hsz1).mono ?_
              rintro e w5 ⟨rfl, hb5⟩
              go_wp2
              go_ret3
              have hbl1 : Below w.heap.size w w1 := hbl.trans (hb1.mono hbs)
              have hs1 := hbl1.size
              have hs4 := hb4.size
              have hbl2 := hbl1.alloc hs1 (.cells #[.int .u8 c0, .int .u8 c1, .int .u8 c2, .int .u8 c3, .int .u8 c4, .int .u8 c5, .int .u8 c6, .int .u8 c7] 57)
              refine ⟨ti, tj, true, rfl, .inr ⟨rfl, HW.out, by omega, i, j, hij, hjl, ?_, HN.out, ?_, HTI.out.symm, HTJ.out.symm⟩, hbl2.trans ((hb4.mono (by simp; omega)).trans (hb5.mono (by simp at hs4; omega)))⟩
              · rw [clB_iff ts m i j hm1 hm8]
                exact ⟨by rw [HTI.out, HTJ.out, HLK.out]; exact HKE.out, by rw [HTI.out, HTJ.out]; exact dT⟩
              · intro i' hi'
                exact clB_no hm1 hm8 (fun e => HLE.out i' hi' (by rw [e.1, HTJ.out]; exact HLK.out))
        · obtain rfl : j = ts.length := by omega
          go_wp2
          go_ret3
          exact ⟨_, _, _, rfl, .inl ⟨rfl, rfl, rfl, .inr (.inr HN.out)⟩, hbl⟩
end Go.Proofs.Ytohnffbcgancfaa
