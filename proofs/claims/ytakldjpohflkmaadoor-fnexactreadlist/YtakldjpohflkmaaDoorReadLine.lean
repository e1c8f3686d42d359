/- impl.readLine: one line into a list. -/
import Derived.Test.YtakldjpohflkmaaDoorCutLine
namespace Go.Proofs.YtakldjpohflkmaaDoor
open Go.RowKit Go.Shelf
set_option maxRecDepth 100000 in
set_option maxHeartbeats 1000000 in
theorem readLine_first (b : Nat) (n : Int) (v : Value) (text : ByteArray) (m : Int) (hs : text.size ≤ 281474976710656) (w : World) (hw : Errs w) (hx : LBox w b n v) :
    Calls Tryd.prog 40 #[.pointer (some ⟨b, 0, none⟩), .int .i64 0, .string text, .int .i64 m] w fun e w' =>
      ((∃ k : Nat, k ≤ 3000 ∧ [115, 105, 122, 101, 32] ++ Lib.decDigits k = text.data.toList ∧ e = .returned .nilIface ∧ LBox w' b k v) ∨ ((∀ k : Nat, k ≤ 3000 → [115, 105, 122, 101, 32] ++ Lib.decDigits k ≠ text.data.toList) ∧ ∃ (tp : TypeId) (p : Value), e = .returned (.iface tp p))) ∧ Below b w w' := by
  have HS := hid (readSize_any text hs w hw)
  have HX := hid hx
  have hbl := hx.lt
  clear hw hx
  go_enter Tryd.func40, Tryd.ntmps40
  go_wp2_with fail
  refine HS.out.mono ?_
  rintro e w1 ⟨hr, hb⟩
  have x1 := HX.out.below hb
  have HB := hid (hb.mono (Nat.le_of_lt hbl))
  have c0 := x1.c0
  have f0 := x1.fz 0
  have HX0 := hid fun k : Int => x1.set0 k
  clear hb x1
  rcases hr with ⟨k, hk, he, rfl⟩ | ⟨hno, tp, p, rfl⟩
  · have HE := hid he
    clear he
    go_wp2
    go_ret
    exact ⟨.inl ⟨k, hk, HE.out, rfl, HX0.out k⟩, HB.out.setCell (p := ⟨b, 0, none⟩) (Nat.le_refl _) _⟩
  · have HN := hid hno
    clear hno
    go_wp2
    go_ret
    exact ⟨.inr ⟨HN.out, _, _, rfl⟩, HB.out⟩
set_option maxRecDepth 100000 in
set_option maxHeartbeats 1000000 in
theorem readLine_next (b : Nat) (n : Int) (v : Value) (ss : List ByteArray) (line : Int) (hline : 1 ≤ line) (text : ByteArray) (m : Nat) (hm : 1 ≤ m ∧ m ≤ 8) (hs : text.size ≤ 281474976710656) (w : World) (hw : Errs w) (hx : LBox w b n v) (hrow : w.ownsRow (b + 1) 9 1 v ss.length (ss.map Value.string)) (hlen : ss.length ≤ 375) :
    Calls Tryd.prog 40 #[.pointer (some ⟨b, 0, none⟩), .int .i64 line, .string text, .int .i64 (m : Int)] w fun e w' =>
      ((∃ (p : ByteArray) (v' : Value), ss.length < 375 ∧ (p.size : Int) = m ∧ hexL p.data.toList = text.data.toList ∧ e = .returned .nilIface ∧ LBox w' b n v' ∧ w'.ownsRow (b + 1) 9 1 v' (ss.length + 1) ((ss ++ [p]).map Value.string)) ∨ ((ss.length = 375 ∨ ∀ p : ByteArray, (p.size : Int) = m → hexL p.data.toList ≠ text.data.toList) ∧ ∃ (tp : TypeId) (p : Value), e = .returned (.iface tp p))) ∧ Below b w w' := by
  obtain ⟨i0, hi, hz0, hz1, hz2⟩ := info_parts Tryd.info9
  have hl0 : ¬ (line = 0) := by omega
  have hbl := hx.lt
  have HX := hid hx
  have HROW := hid hrow
  obtain ⟨tn, pn, hns⟩ := hw.many
  have HS := hid fun W (h : Errs W) => readSum_any text m hm hs W h
  have HW := hid hw
  obtain ⟨a, ca, rfl, _⟩ := row_form hrow
  have c1 := hx.c1
  clear hw hx hrow
  by_cases h375 : ss.length = 375
  · have h375' : (ss.length : Int) = 375 := by omega
    clear HS HW HX HROW
    go_enter Tryd.func40, Tryd.ntmps40
    go_wp2
    go_ret
    exact ⟨.inr ⟨.inl h375, _, _, rfl⟩, Below.refl _ _⟩
  · have h375' : ¬ ((ss.length : Int) = 375) := by omega
    go_enter Tryd.func40, Tryd.ntmps40
    go_wp2_with fail
    refine (HS.out _ HW.out).mono ?_
    rintro e w1 ⟨hr, hb⟩
    have x1 := HX.out.below hb
    have r1 := Below.row hb HROW.out
    have HB := hid (hb.mono (Nat.le_of_lt hbl))
    have hs1 := hb.size
    rcases hr with ⟨p, hp, hpe, rfl⟩ | ⟨hno, tp, q, rfl⟩
    · have d1 := x1.c1
      have g1 := x1.fz 1
      have HP := hid hpe
      have HX1 := hid x1
      clear hb c1 x1 hpe HX HROW hns
      go_wp2_with (at_builtin; refine wpList_append_own _ rfl _ _ 22 rfl (b + 1) 9 i0 (.string ⟨#[]⟩) 1 16 Tryd.underlying22 hi hz0 hz1 hz2 rfl (by decide) _ _ _ rfl (r1.alloc _) ⟨_, 0, none⟩ 1 1 [.string p] rfl rfl (cell_one_new _ _ _) (by simp [Value.oneCell']) (by unfold maxLen; omega) (by omega) (by simp; omega) ?_; intro v' w2 hown' hgrow _; obtain ⟨a2, c2, rfl, _⟩ := row_form hown'; obtain ⟨hbx4, hbx5, hrow5, hbl5, hkeep⟩ := lbox_stored HX1.out r1 (by omega) (by omega) hown' hgrow; have d2 := hbx4.c1; have g2 := hbx4.fz 1; have H5 := hid hbx5; have H6 := hid hrow5; have H7 := hid hbl5; clear hbx4 hbx5 hrow5 hbl5 hkeep hown' hgrow)
      go_ret
      refine ⟨.inl ⟨p, _, by omega, hp, HP.out, rfl, H5.out, ?_⟩, HB.out.trans H7.out⟩
      have := H6.out
      simpa using this
    · have HN := hid hno
      clear hb c1 x1 hno HX HROW hns r1
      go_wp2
      go_ret
      exact ⟨.inr ⟨.inr HN.out, _, _, rfl⟩, HB.out⟩
end Go.Proofs.YtakldjpohflkmaaDoor
