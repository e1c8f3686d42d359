/- strings.Cut at a newline. -/
import Derived.Test.YtakldjpohflkmaaDoorReadSumW
import Derived.BigQuiet
namespace Go.Proofs.YtakldjpohflkmaaDoor
open Go.RowKit Go.Shelf
/-- What strings.Cut answers of a text at its first newline. -/
def CutR (s : ByteArray) (e : Ending) : Prop :=
  (∃ a r : ByteArray, s.data.toList = a.data.toList ++ 10 :: r.data.toList ∧ (∀ b ∈ a.data.toList, b ≠ 10) ∧ e = .returned (.tuple #[.string a, .string r, .bool true])) ∨ ((∀ b ∈ s.data.toList, b ≠ 10) ∧ e = .returned (.tuple #[.string s, .string ⟨#[]⟩, .bool false]))
theorem cut_yes (s : ByteArray) (i : Nat) (h : Lib.indexByte s.data.toList 10 = i) : i < s.size ∧ CutR s (.returned (.tuple #[.string (s.extract 0 i), .string (s.extract (i + 1) s.size), .bool true])) := by
  obtain ⟨h1, h2⟩ := Lib.indexByte_some h
  obtain ⟨hi, hg⟩ := List.getElem?_eq_some_iff.1 h1
  have hi' : i < s.size := by rw [Array.length_toList] at hi; exact hi
  have hsl : s.data.toList.length = s.size := by rw [Array.length_toList]; rfl
  refine ⟨hi', .inl ⟨_, _, ?_, ?_, rfl⟩⟩
  · rw [ext_list, ext_list]
    simp only [List.drop_zero, Nat.sub_zero]
    rw [List.take_of_length_le (i := s.size - (i + 1)) (by rw [List.length_drop]; omega), ← hg, ← List.drop_eq_getElem_cons hi, List.take_append_drop]
  · intro b hb hb10
    rw [ext_list] at hb
    simp only [List.drop_zero, Nat.sub_zero] at hb
    obtain ⟨k, hk, e⟩ := List.getElem_of_mem hb
    rw [List.length_take] at hk
    rw [List.getElem_take] at e
    exact h2 k (by omega) (by rw [List.getElem?_eq_getElem (by omega), e, hb10])
theorem cut_no (s : ByteArray) (h : Lib.indexByte s.data.toList 10 = -1) : CutR s (.returned (.tuple #[.string s, .string ⟨#[]⟩, .bool false])) := by
  refine .inr ⟨fun b hb hb10 => ?_, rfl⟩
  obtain ⟨k, hk, e⟩ := List.getElem_of_mem hb
  exact Lib.indexByte_none h k (by rw [List.getElem?_eq_getElem hk, e, hb10])
set_option maxRecDepth 100000 in
set_option maxHeartbeats 1000000 in
theorem sliteCut_any (s : ByteArray) (hs : s.size ≤ 281474976710656) (w : World) : Calls Tryd.prog 48 #[.string s, .string ⟨#[10]⟩] w fun e w' => CutR s e ∧ Below w.heap.size w w' := by
  have HI := hid fun W => index_one s 10 W
  have hge := Lib.indexByte_ge s.data.toList 10
  rcases Classical.em (Lib.indexByte s.data.toList 10 < 0) with h | h
  · have e : Lib.indexByte s.data.toList 10 = -1 := by omega
    have HN := hid (cut_no s e)
    rw [e] at HI
    clear hge h e
    go_enter Tryd.func48, Tryd.ntmps48
    go_wp2_with (go_at_call 58; refine (HI.out _).mono ?_; rintro e w' ⟨rfl, rfl⟩)
    go_ret3
    exact ⟨HN.out, Below.refl _ _⟩
  · obtain ⟨i, hi⟩ := Int.eq_ofNat_of_zero_le (show 0 ≤ Lib.indexByte s.data.toList 10 by omega)
    obtain ⟨hlt, hy⟩ := cut_yes s i hi
    have HY := hid hy
    rw [hi] at HI
    clear hge h hi hy
    have h0 : (0 : Int) ≤ (i : Int) := by omega
    have h1 : (i : Int) ≤ (s.size : Int) := by omega
    have h2 : (i : Int) + 1 ≤ (s.size : Int) := by omega
    have ew : IntKind.i64.wrap ((i : Int) + 1) = (i : Int) + 1 := by rw [IntKind.wrap_i64]; omega
    go_enter Tryd.func48, Tryd.ntmps48
    go_wp2_with (go_at_call 58; refine (HI.out _).mono ?_; rintro e w' ⟨rfl, rfl⟩)
    go_quiet (fail)
    go_wp2
    go_ret3
    exact ⟨HY.out, ⟨rfl, rfl, rfl, Nat.le_refl _, fun _ _ => rfl⟩⟩
set_option maxRecDepth 100000 in
set_option maxHeartbeats 400000 in
theorem stringsCut_any (s : ByteArray) (hs : s.size ≤ 281474976710656) (w : World) : Calls Tryd.prog 39 #[.string s, .string ⟨#[10]⟩] w fun e w' => CutR s e ∧ Below w.heap.size w w' := by
  have HC := hid (sliteCut_any s hs w)
  go_enter Tryd.func39, Tryd.ntmps39
  go_wp2_with fail
  refine HC.out.mono ?_
  rintro e w1 ⟨hc, hb⟩
  have HB := hid hb
  have HCR := hid hc
  clear hb
  rcases hc with ⟨a, r, _, _, rfl⟩ | ⟨_, rfl⟩
  · go_wp2
    go_ret3
    exact ⟨HCR.out, HB.out⟩
  · go_wp2
    go_ret3
    exact ⟨HCR.out, HB.out⟩
end Go.Proofs.YtakldjpohflkmaaDoor
