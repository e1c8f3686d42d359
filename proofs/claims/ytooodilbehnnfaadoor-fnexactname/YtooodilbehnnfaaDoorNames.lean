/- spec.Name and impl.Name: the name of a text. -/
import Derived.Test.YtooodilbehnnfaaDoorFormImpl
import Derived.Test.YtooodilbehnnfaaDoorDescSpec
import Derived.Test.YtooodilbehnnfaaDoorDescImpl
namespace Go.Proofs.YtooodilbehnnfaaDoor
open Go.RowKit
/-- The name of a text. -/
def nameB (s : ByteArray) (m : Int) : ByteArray := if hasL s m then sumT m (formR (descN s m) (descS s m) m) else ⟨#[]⟩
theorem sumT_no {m : Int} (h : isW m = false) (s : ByteArray) : sumT m s = ⟨#[]⟩ := by
  unfold sumT sumOf
  rw [h]; simp
theorem descS_size (s : ByteArray) (m : Int) : ∀ i, ((descS s m).getD i ByteArray.empty).size ≤ maxLen := by
  intro i
  have key : ∀ x ∈ descS s m, x.size ≤ 8 := by
    intro x hx
    unfold descS at hx
    split at hx
    · obtain ⟨p, _, rfl⟩ := List.mem_map.1 hx
      exact sumT_size m p
    · simp at hx
  by_cases h : i < (descS s m).length
  · rw [List.getD_eq_getElem?_getD, List.getElem?_eq_getElem h]
    have := key _ (List.getElem_mem h)
    unfold maxLen
    simp only [Option.getD_some]
    omega
  · rw [List.getD_eq_getElem?_getD, List.getElem?_eq_none (by omega)]
    simp
theorem formR_size (s : ByteArray) (m : Int) : (formR (descN s m) (descS s m) m).size ≤ maxLen := by
  unfold formR
  split
  · next h =>
    unfold okL at h
    simp only [Bool.and_eq_true, decide_eq_true_eq, List.all_eq_true] at h
    obtain ⟨hw, hn, hl, hall⟩ := h
    have hm8 : 1 ≤ m ∧ m ≤ 8 := by simpa [isW] using hw
    show (formL (descN s m).toNat (descS s m)).toArray.size ≤ maxLen
    rw [List.size_toArray]
    have h1 := rowsL_len 8 (descS s m) (fun x hx => by have := hall x hx; omega)
    have h2 := decB_len4 (descN s m).toNat (by omega)
    have h5 : (descS s m).length * (2 * 8 + 1) ≤ 375 * 17 := Nat.mul_le_mul hl (by omega)
    unfold formL headL maxLen
    simp only [List.length_append, List.length_cons, List.length_nil]
    omega
  · simp [maxLen, ByteArray.size]
set_option maxRecDepth 100000 in
set_option maxHeartbeats 400000 in
theorem specName_any (s : ByteArray) (m : Int) (w : World) (hs : s.size ≤ maxLen) :
    Calls Tryd.prog 11 #[.string s, .int .i64 m] w fun e w' => e = .returned (.string (nameB s m)) ∧ Below w.heap.size w w' := by
  have hs' := hs
  unfold maxLen at hs
  by_cases h3 : 3000 < s.size
  · have e : nameB s m = ⟨#[]⟩ := by
      unfold nameB hasL
      rw [if_neg]
      simp; omega
    rw [e]; clear e
    go_enter Tryd.func11, Tryd.ntmps11
    go_wp2
    go_ret
    exact ⟨rfl, Below.refl _ _⟩
  · have e : nameB s m = sumT m (formR (descN s m) (descS s m) m) := by
      unfold nameB
      cases hw : isW m with
      | true => rw [if_pos]; simp [hasL, hw]; omega
      | false => rw [if_neg (by simp [hasL, hw]), sumT_no hw]
    rw [e]; clear e
    have hdl := descS_len s m
    have HD := hid fun W => specDescribe_any s m W hs'
    have HF := hid fun W v (h : Reads W v (descS s m)) => specFormList_any (descN s m) v (descS s m) m W h (by unfold maxLen; omega) (descS_size s m)
    have HU := hid fun W => specSum_any (formR (descN s m) (descS s m) m) m W (formR_size s m)
    change Hid (∀ W, Calls Tryd.prog 28 #[.string (formR (descN s m) (descS s m) m), .int .i64 m] W fun e w' => e = .returned (.string (sumT m (formR (descN s m) (descS s m) m))) ∧ Below W.heap.size W w') at HU
    generalize formR (descN s m) (descS s m) m = fr at *
    generalize descS s m = ds at *
    generalize descN s m = dn at *
    generalize sumT m fr = r at *
    go_enter Tryd.func11, Tryd.ntmps11
    go_wp2_with fail
    refine (HD.out _).mono ?_
    rintro e w1 ⟨v1, rfl, ho1, hb1⟩
    go_wp2_with fail
    refine (HF.out _ _ (Reads.of_row ho1)).mono ?_
    rintro e w2 ⟨rfl, hb2⟩
    go_wp2_with fail
    refine (HU.out _).mono ?_
    rintro e w3 ⟨rfl, hb3⟩
    have HB := hid (hb1.trans ((hb2.mono hb1.size).trans (hb3.mono (Nat.le_trans hb1.size hb2.size))))
    clear hb1 hb2 hb3 ho1
    go_wp2
    go_ret
    exact ⟨rfl, HB.out⟩
set_option maxRecDepth 100000 in
set_option maxHeartbeats 400000 in
theorem implName_any (s : ByteArray) (m : Int) (w : World) (htab : Lib.TabIs Tryd.prog w "internal/strconv.uint64pow10" .u64 Lib.pow10Tab) :
    Calls Tryd.prog 12 #[.string s, .int .i64 m] w fun e w' => e = .returned (.string (nameB s m)) ∧ Below w.heap.size w w' := by
  have HL := hid fun W => hasList_any s m W
  cases hh : hasL s m with
  | false =>
    have e : nameB s m = ⟨#[]⟩ := by simp [nameB, hh]
    rw [e]; clear e
    rw [hh] at HL
    go_enter Tryd.func12, Tryd.ntmps12
    go_wp2_with (go_at_call 30; refine (HL.out _).mono ?_; rintro e w' ⟨rfl, rfl⟩)
    go_ret
    exact ⟨rfl, Below.refl _ _⟩
  | true =>
    have e : nameB s m = sumT m (formR (descN s m) (descS s m) m) := by simp [nameB, hh]
    rw [e]; clear e
    rw [hh] at HL
    have hdl := descS_len s m
    have HT := hid htab
    have HD := hid fun W => implDescribe_any s m W
    have HF := hid fun W v (h : Reads W v (descS s m)) h2 => implFormList_any (descN s m) v (descS s m) m W h (by unfold maxLen; omega) (descS_size s m) h2
    have HU := hid fun W => implSum_any (formR (descN s m) (descS s m) m) m W (formR_size s m)
    change Hid (∀ W, Calls Tryd.prog 31 #[.string (formR (descN s m) (descS s m) m), .int .i64 m] W fun e w' => e = .returned (.string (sumT m (formR (descN s m) (descS s m) m))) ∧ Below W.heap.size W w') at HU
    generalize formR (descN s m) (descS s m) m = fr at *
    generalize descS s m = ds at *
    generalize descN s m = dn at *
    generalize sumT m fr = r at *
    clear htab hh
    go_enter Tryd.func12, Tryd.ntmps12
    go_wp2_with (go_at_call 30; refine (HL.out _).mono ?_; rintro e w' ⟨rfl, rfl⟩)
    refine (HD.out _).mono ?_
    rintro e w1 ⟨v1, rfl, ho1, hb1⟩
    go_wp2_with fail
    refine (HF.out _ _ (Reads.of_row ho1) (tab_below HT.out hb1)).mono ?_
    rintro e w2 ⟨rfl, hb2⟩
    go_wp2_with fail
    refine (HU.out _).mono ?_
    rintro e w3 ⟨rfl, hb3⟩
    have HB := hid (hb1.trans ((hb2.mono hb1.size).trans (hb3.mono (Nat.le_trans hb1.size hb2.size))))
    clear hb1 hb2 hb3 ho1
    go_wp2
    go_ret
    exact ⟨rfl, HB.out⟩
end Go.Proofs.YtooodilbehnnfaaDoor
