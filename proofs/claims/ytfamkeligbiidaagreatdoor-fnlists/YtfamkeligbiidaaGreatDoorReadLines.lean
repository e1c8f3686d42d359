import Derived.Test.YtfamkeligbiidaaGreatDoorReadSumW
import Derived.BigQuiet
/- strings.Cut at a newline. -/
namespace Go.Proofs.YtfamkeligbiidaaGreatDoor
open Go.RowKit Go.Shelf
/-- What strings.Cut answers of a text at its first newline. -/
def CutR (s : ByteArray) (e : Ending) : Prop :=
  (∃ a r : ByteArray, s.data.toList = a.data.toList ++ 10 :: r.data.toList ∧ (∀ b ∈ a.data.toList, b ≠ 10) ∧ e = .returned (.tuple #[.string a, .string r, .bool true])) ∨ ((∀ b ∈ s.data.toList, b ≠ 10) ∧ e = .returned (.tuple #[.string s, .string ⟨#[]⟩, .bool false]))
theorem cut_yes (s : ByteArray) (i : Nat) (h : Lib.indexByte s.data.toList 10 = i) : i < s.size ∧ CutR s (.returned (.tuple #[.string (s.extract 0 i), .string (s.extract (i + 1) s.size), .bool true])) := by
  obtain ⟨h1, h2⟩ := Lib.indexByte_some h
  obtain ⟨hi, hg⟩ := List.getElem?_eq_some_iff.1 h1
  have hi' : i < s.size := by rw [Array.length_toList] at hi; exact hi
  have hsl : s.data.toList.length = s.size := by rw [Array.length_toList]; rfl
  refine ⟨hi', .inl ⟨_, _, ?_, ?_, rfl⟩⟩
  · rw [ext_list, ext_list]
    simp only [List.drop_zero, Nat.sub_zero]
    rw [List.take_of_length_le (i := s.size - (i + 1)) (by rw [List.length_drop]; omega), ← hg, ← List.drop_eq_getElem_cons hi, List.take_append_drop]
  · intro b hb hb10
    rw [ext_list] at hb
    simp only [List.drop_zero, Nat.sub_zero] at hb
    obtain ⟨k, hk, e⟩ := List.getElem_of_mem hb
    rw [List.length_take] at hk
    rw [List.getElem_take] at e
    exact h2 k (by omega) (by rw [List.getElem?_eq_getElem (by omega), e, hb10])
theorem cut_no (s : ByteArray) (h : Lib.indexByte s.data.toList 10 = -1) : CutR s (.returned (.tuple #[.string s, .string ⟨#[]⟩, .bool false])) := by
  refine .inr ⟨fun b hb hb10 => ?_, rfl⟩
  obtain ⟨k, hk, e⟩ := List.getElem_of_mem hb
  exact Lib.indexByte_none h k (by rw [List.getElem?_eq_getElem hk, e, hb10])
set_option maxRecDepth 100000 in
set_option maxHeartbeats 1000000 in
theorem sliteCut_any (s : ByteArray) (hs : s.size ≤ 281474976710656) (w : World) : Calls Tryz.prog 74 #[.string s, .string ⟨#[10]⟩] w fun e w' => CutR s e ∧ Below w.heap.size w w' := by
  have HI := hid fun W => index_one s 10 W
  have hge := Lib.indexByte_ge s.data.toList 10
  rcases Classical.em (Lib.indexByte s.data.toList 10 < 0) with h | h
  · have e : Lib.indexByte s.data.toList 10 = -1 := by omega
    have HN := hid (cut_no s e)
    rw [e] at HI
    clear hge h e
    go_enter Tryz.func74, Tryz.ntmps74
    go_wp2_with (go_at_call 85; refine (HI.out _).mono ?_; rintro e w' ⟨rfl, rfl⟩)
    go_ret3
    exact ⟨HN.out, Below.refl _ _⟩
  · obtain ⟨i, hi⟩ := Int.eq_ofNat_of_zero_le (show 0 ≤ Lib.indexByte s.data.toList 10 by omega)
    obtain ⟨hlt, hy⟩ := cut_yes s i hi
    have HY := hid hy
    rw [hi] at HI
    clear hge h hi hy
    have h0 : (0 : Int) ≤ (i : Int) := by omega
    have h1 : (i : Int) ≤ (s.size : Int) := by omega
    have h2 : (i : Int) + 1 ≤ (s.size : Int) := by omega
    have ew : IntKind.i64.wrap ((i : Int) + 1) = (i : Int) + 1 := by rw [IntKind.wrap_i64]; omega
    go_enter Tryz.func74, Tryz.ntmps74
    go_wp2_with (go_at_call 85; refine (HI.out _).mono ?_; rintro e w' ⟨rfl, rfl⟩)
    go_quiet (fail)
    go_wp2
    go_ret3
    exact ⟨HY.out, ⟨rfl, rfl, rfl, Nat.le_refl _, fun _ _ => rfl⟩⟩
set_option maxRecDepth 100000 in
set_option maxHeartbeats 400000 in
theorem stringsCut_any (s : ByteArray) (hs : s.size ≤ 281474976710656) (w : World) : Calls Tryz.prog 62 #[.string s, .string ⟨#[10]⟩] w fun e w' => CutR s e ∧ Below w.heap.size w w' := by
  have HC := hid (sliteCut_any s hs w)
  go_enter Tryz.func62, Tryz.ntmps62
  go_wp2_with fail
  refine HC.out.mono ?_
  rintro e w1 ⟨hc, hb⟩
  have HB := hid hb
  have HCR := hid hc
  clear hb
  rcases hc with ⟨a, r, _, _, rfl⟩ | ⟨_, rfl⟩
  · go_wp2
    go_ret3
    exact ⟨HCR.out, HB.out⟩
  · go_wp2
    go_ret3
    exact ⟨HCR.out, HB.out⟩
end Go.Proofs.YtfamkeligbiidaaGreatDoor
/- impl.readLine: one line into a list. -/
namespace Go.Proofs.YtfamkeligbiidaaGreatDoor
open Go.RowKit Go.Shelf
set_option maxRecDepth 100000 in
set_option maxHeartbeats 1000000 in
theorem readLine_first (b : Nat) (n : Int) (v : Value) (text : ByteArray) (m : Int) (hs : text.size ≤ 281474976710656) (w : World) (hw : Errs w) (hx : LBox w b n v) :
    Calls Tryz.prog 63 #[.pointer (some ⟨b, 0, none⟩), .int .i64 0, .string text, .int .i64 m] w fun e w' =>
      ((∃ k : Nat, k ≤ 3000 ∧ [115, 105, 122, 101, 32] ++ Lib.decDigits k = text.data.toList ∧ e = .returned .nilIface ∧ LBox w' b k v) ∨ ((∀ k : Nat, k ≤ 3000 → [115, 105, 122, 101, 32] ++ Lib.decDigits k ≠ text.data.toList) ∧ ∃ (tp : TypeId) (p : Value), e = .returned (.iface tp p))) ∧ Below b w w' := by
  have HS := hid (readSize_any text hs w hw)
  have HX := hid hx
  have hbl := hx.lt
  clear hw hx
  go_enter Tryz.func63, Tryz.ntmps63
  go_wp2_with fail
  refine HS.out.mono ?_
  rintro e w1 ⟨hr, hb⟩
  have x1 := HX.out.below hb
  have HB := hid (hb.mono (Nat.le_of_lt hbl))
  have c0 := x1.c0
  have f0 := x1.fz 0
  have HX0 := hid fun k : Int => x1.set0 k
  clear hb x1
  rcases hr with ⟨k, hk, he, rfl⟩ | ⟨hno, tp, p, rfl⟩
  · have HE := hid he
    clear he
    go_wp2
    go_ret
    exact ⟨.inl ⟨k, hk, HE.out, rfl, HX0.out k⟩, HB.out.setCell (p := ⟨b, 0, none⟩) (Nat.le_refl _) _⟩
  · have HN := hid hno
    clear hno
    go_wp2
    go_ret
    exact ⟨.inr ⟨HN.out, _, _, rfl⟩, HB.out⟩
set_option maxRecDepth 100000 in
set_option maxHeartbeats 1000000 in
theorem readLine_next (b : Nat) (n : Int) (v : Value) (ss : List ByteArray) (line : Int) (hline : 1 ≤ line) (text : ByteArray) (m : Nat) (hm : 1 ≤ m ∧ m ≤ 8) (hs : text.size ≤ 281474976710656) (w : World) (hw : Errs w) (hx : LBox w b n v) (hrow : w.ownsRow (b + 1) 9 1 v ss.length (ss.map Value.string)) (hlen : ss.length ≤ 375) :
    Calls Tryz.prog 63 #[.pointer (some ⟨b, 0, none⟩), .int .i64 line, .string text, .int .i64 (m : Int)] w fun e w' =>
      ((∃ (p : ByteArray) (v' : Value), ss.length < 375 ∧ (p.size : Int) = m ∧ hexL p.data.toList = text.data.toList ∧ e = .returned .nilIface ∧ LBox w' b n v' ∧ w'.ownsRow (b + 1) 9 1 v' (ss.length + 1) ((ss ++ [p]).map Value.string)) ∨ ((ss.length = 375 ∨ ∀ p : ByteArray, (p.size : Int) = m → hexL p.data.toList ≠ text.data.toList) ∧ ∃ (tp : TypeId) (p : Value), e = .returned (.iface tp p))) ∧ Below b w w' := by
  obtain ⟨i0, hi, hz0, hz1, hz2⟩ := info_parts Tryz.info9
  have hl0 : ¬ (line = 0) := by omega
  have hbl := hx.lt
  have HX := hid hx
  have HROW := hid hrow
  obtain ⟨tn, pn, hns⟩ := hw.many
  have HS := hid fun W (h : Errs W) => readSum_any text m hm hs W h
  have HW := hid hw
  obtain ⟨a, ca, rfl, _⟩ := row_form hrow
  have c1 := hx.c1
  clear hw hx hrow
  by_cases h375 : ss.length = 375
  · have h375' : (ss.length : Int) = 375 := by omega
    clear HS HW HX HROW
    go_enter Tryz.func63, Tryz.ntmps63
    go_wp2
    go_ret
    exact ⟨.inr ⟨.inl h375, _, _, rfl⟩, Below.refl _ _⟩
  · have h375' : ¬ ((ss.length : Int) = 375) := by omega
    go_enter Tryz.func63, Tryz.ntmps63
    go_wp2_with fail
    refine (HS.out _ HW.out).mono ?_
    rintro e w1 ⟨hr, hb⟩
    have x1 := HX.out.below hb
    have r1 := Below.row hb HROW.out
    have HB := hid (hb.mono (Nat.le_of_lt hbl))
    have hs1 := hb.size
    rcases hr with ⟨p, hp, hpe, rfl⟩ | ⟨hno, tp, q, rfl⟩
    · have d1 := x1.c1
      have g1 := x1.fz 1
      have HP := hid hpe
      have HX1 := hid x1
      clear hb c1 x1 hpe HX HROW hns
      go_wp2_with (at_builtin; refine wpList_append_own _ rfl _ _ 25 rfl (b + 1) 9 i0 (.string ⟨#[]⟩) 1 16 Tryz.underlying25 hi hz0 hz1 hz2 rfl (by decide) _ _ _ rfl (r1.alloc _) ⟨_, 0, none⟩ 1 1 [.string p] rfl rfl (cell_one_new _ _ _) (by simp [Value.oneCell']) (by unfold maxLen; omega) (by omega) (by simp; omega) ?_; intro v' w2 hown' hgrow _; obtain ⟨a2, c2, rfl, _⟩ := row_form hown'; obtain ⟨hbx4, hbx5, hrow5, hbl5, hkeep⟩ := lbox_stored HX1.out r1 (by omega) (by omega) hown' hgrow; have d2 := hbx4.c1; have g2 := hbx4.fz 1; have H5 := hid hbx5; have H6 := hid hrow5; have H7 := hid hbl5; clear hbx4 hbx5 hrow5 hbl5 hkeep hown' hgrow)
      go_ret
      refine ⟨.inl ⟨p, _, by omega, hp, HP.out, rfl, H5.out, ?_⟩, HB.out.trans H7.out⟩
      have := H6.out
      simpa using this
    · have HN := hid hno
      clear hb c1 x1 hno HX HROW hns r1
      go_wp2
      go_ret
      exact ⟨.inr ⟨.inr HN.out, _, _, rfl⟩, HB.out⟩
end Go.Proofs.YtfamkeligbiidaaGreatDoor
/- impl.readLines: line by line. -/
namespace Go.Proofs.YtfamkeligbiidaaGreatDoor
open Go.RowKit Go.Shelf
def strSz : Value → Nat
  | .string s => s.size
  | _ => 0
/-- What readLines answers. -/
def LinesR (s : ByteArray) (m : Int) (w : World) (e : Ending) (w' : World) : Prop :=
  (∃ (n : Int) (ss : List ByteArray) (v : Value), okL n ss m = true ∧ formR n ss m = s ∧ e = .returned (.tuple #[.agg #[.int .i64 n, v], .nilIface]) ∧ w'.ownsRow w.heap.size 9 1 v ss.length (ss.map Value.string)) ∨ (NoForm s m ∧ ∃ a : Addr, e = .returned (.tuple #[.agg #[.int .i64 0, .slice none 0 0], .iface 65 (.pointer (some a))]))
/-- What has been read when k lines have come. -/
def Sofar (s : ByteArray) (m : Nat) (k : Nat) (q : ByteArray) (n : Int) (ss : List ByteArray) (v : Value) : Prop :=
  (k = 0 ∧ q = s ∧ n = 0 ∧ ss = [] ∧ v = .slice none 0 0) ∨ (1 ≤ k ∧ k = ss.length + 1 ∧ ss.length ≤ 375 ∧ (0 ≤ n ∧ n ≤ 3000) ∧ (∀ p ∈ ss, (p.size : Int) = m) ∧ s.data.toList = formL n.toNat ss ++ q.data.toList)
theorem cut_size {q a r : ByteArray} (h : q.data.toList = a.data.toList ++ 10 :: r.data.toList) : a.size ≤ q.size ∧ r.size < q.size := by
  have := congrArg List.length h
  rw [List.length_append, List.length_cons, Array.length_toList, Array.length_toList, Array.length_toList] at this
  have e1 : q.data.size = q.size := rfl
  have e2 : a.data.size = a.size := rfl
  have e3 : r.data.size = r.size := rfl
  omega
theorem form_next (n : Nat) (ss : List ByteArray) (p : ByteArray) (r : List UInt8) : formL n (ss ++ [p]) ++ r = formL n ss ++ (hexL p.data.toList ++ 10 :: r) := by
  unfold formL rowsL
  rw [List.flatMap_append]
  simp
theorem empty_of {q : ByteArray} (h : q.size = 0) : q = ⟨#[]⟩ := by
  rcases q with ⟨⟨l⟩⟩
  have : l.length = 0 := h
  rw [List.length_eq_zero_iff.1 this]
theorem LBox.trans2 {W W' : World} {b B : Nat} {n : Int} {v : Value} (h : LBox W b n v) (hb : Below B W W') (hB : b < B) : LBox W' b n v := (hb.block b hB).trans h
theorem data_ne {q : ByteArray} (h : q.size ≠ 0) : q.data.toList ≠ [] := fun e => h (by
  have := congrArg List.length e
  rw [Array.length_toList] at this
  exact this)
theorem sofar_end {s q : ByteArray} {m k : Nat} {n : Int} {ss : List ByteArray} {v : Value} (h : Sofar s m k q n ss v) (hk : k = 0 ∨ q.size ≠ 0) (hno : ∀ b ∈ q.data.toList, b ≠ 10) : NoForm s m := by
  rcases h with ⟨_, rfl, _⟩ | ⟨hk1, _, _, _, _, hf⟩
  · exact noForm_end0 hno
  · rcases hk with h0 | hq
    · omega
    · exact noForm_end hf (data_ne hq) hno
theorem sofar_done {s : ByteArray} {m k : Nat} {n : Int} {ss : List ByteArray} {v : Value} (hm : 1 ≤ m ∧ m ≤ 8) (hk : 1 ≤ k) (h : Sofar s m k ⟨#[]⟩ n ss v) : okL n ss m = true ∧ formR n ss m = s := by
  rcases h with ⟨h0, _⟩ | ⟨_, _, hl, hn, hall, hf⟩
  · omega
  · have hok : okL n ss m = true := okL_of (by simp [isW]; omega) hn hl hall
    refine ⟨hok, (formR_iff hok).2 ?_⟩
    rw [hf]
    simp
theorem step_line (z : Int) (s q : ByteArray) (m k : Nat) (hz : z = (k : Int)) (n : Int) (ss : List ByteArray) (v : Value) (b : Nat) (hm : 1 ≤ m ∧ m ≤ 8) (hsf : Sofar s m k q n ss v) (hk : k = 0 ∨ q.size ≠ 0) (hs : q.size ≤ 281474976710656) (a r : ByteArray) (hqa : q.data.toList = a.data.toList ++ 10 :: r.data.toList) (ha : ∀ b ∈ a.data.toList, b ≠ 10) (w1 : World) (hE : Errs w1) (hx : LBox w1 b n v) (hrow : w1.ownsRow (b + 1) 9 1 v ss.length (ss.map Value.string)) :
    Calls Tryz.prog 63 #[.pointer (some ⟨b, 0, none⟩), .int .i64 z, .string a, .int .i64 (m : Int)] w1 fun e w2 => ((e = .returned .nilIface ∧ ∃ (n' : Int) (v' : Value) (ss' : List ByteArray), LBox w2 b n' v' ∧ w2.ownsRow (b + 1) 9 1 v' ss'.length (ss'.map Value.string) ∧ Sofar s m (k + 1) r n' ss' v') ∨ (NoForm s m ∧ ∃ (tp : TypeId) (p : Value), e = .returned (.iface tp p))) ∧ Below b w1 w2 := by
  have hsz := cut_size hqa
  subst hz
  rcases hsf with ⟨rfl, rfl, rfl, rfl, rfl⟩ | ⟨hk1, hkk, hl, hn, hall, hf⟩
  · refine (readLine_first b 0 (.slice none 0 0) a m (by omega) w1 hE hx).mono ?_
    rintro e w2 ⟨h, hb⟩
    refine ⟨?_, hb⟩
    rcases h with ⟨j, hj, hja, rfl, hx2⟩ | ⟨hno, tp, p, rfl⟩
    · refine .inl ⟨rfl, j, _, [], hx2, World.ownsRow_nil _ _ _ _, .inr ⟨by omega, rfl, by simp, by omega, by simp, ?_⟩⟩
      rw [hqa, ← hja]
      simp [formL, headL, rowsL]
    · exact .inr ⟨noForm_head hqa ha hno, _, _, rfl⟩
  · have hq : q.size ≠ 0 := by rcases hk with h0 | h0 <;> omega
    refine (readLine_next b n v ss (k : Int) (by omega) a m hm (by omega) w1 hE hx hrow hl).mono ?_
    rintro e w2 ⟨h, hb⟩
    refine ⟨?_, hb⟩
    rcases h with ⟨p, v', hlt, hp, hpe, rfl, hx2, hr2⟩ | ⟨hno, tp, p, rfl⟩
    · refine .inl ⟨rfl, n, v', ss ++ [p], hx2, by simpa using hr2, .inr ⟨by omega, by simp; omega, by simp; omega, hn, ?_, ?_⟩⟩
      · intro x hx'
        rcases List.mem_append.1 hx' with h | h
        · exact hall x h
        · simp only [List.mem_cons, List.not_mem_nil, or_false] at h
          rw [h]; exact hp
      · rw [hf, hqa, form_next, hpe]
    · refine .inr ⟨?_, _, _, rfl⟩
      rcases hno with h375 | hno
      · exact noForm_many hf (data_ne hq) h375
      · exact noForm_sum (by rw [hf, hqa]) ha hno
set_option maxRecDepth 100000 in
set_option maxHeartbeats 2000000 in
theorem readLines_any (s : ByteArray) (m : Nat) (hm : 1 ≤ m ∧ m ≤ 8) (hs : s.size ≤ 281474976710656) (w : World) (hw : Errs w) :
    Calls Tryz.prog 37 #[.string s, .int .i64 (m : Int)] w fun e w' => LinesR s m w e w' ∧ Below w.heap.size w w' := by
  have HW := hid hw
  have br : LBox ((w.alloc (.cells #[.int .i64 0, .slice none 0 0] 27)).alloc (.cells #[.int .i64 0, .slice none 0 0] 27)) w.heap.size 0 (.slice none 0 0) := LBox.alloc (World.alloc_heap_new w _) _
  have bx : LBox ((w.alloc (.cells #[.int .i64 0, .slice none 0 0] 27)).alloc (.cells #[.int .i64 0, .slice none 0 0] 27)) (w.heap.size + 1) 0 (.slice none 0 0) := by
    have := World.alloc_heap_new (w.alloc (.cells #[.int .i64 0, .slice none 0 0] 27)) (.cells #[.int .i64 0, .slice none 0 0] 27)
    rwa [World.size_alloc] at this
  have hb0 := ((Below.refl w.heap.size w).alloc (Nat.le_refl _) (.cells #[.int .i64 0, .slice none 0 0] 27)).alloc (by simp) (.cells #[.int .i64 0, .slice none 0 0] 27)
  have HBR := hid br
  have HBX := hid bx
  have HB0 := hid hb0
  have HG0 : Hid (0 < w.heap.size) := by obtain ⟨_, _, h⟩ := hw.noEnd; exact World.block_lt_of_cell? w ⟨0, 0, none⟩ h
  clear hw br bx hb0
  go_enter Tryz.func37, Tryz.ntmps37
  go_wp2
  go_loopw [7, 8] (fun rest line wr => ∃ (q : ByteArray) (k : Nat) (n : Int) (v : Value) (ss : List ByteArray), rest = .string q ∧ line = .int .i64 (k : Int) ∧ q.size ≤ s.size ∧ LBox wr w.heap.size 0 (.slice none 0 0) ∧ LBox wr (w.heap.size + 1) n v ∧ wr.ownsRow (w.heap.size + 1 + 1) 9 1 v ss.length (ss.map Value.string) ∧ Below w.heap.size w wr ∧ Sofar s m k q n ss v) (fun rest _ _ => strSz rest)
  case atStart => exact ⟨s, 0, 0, _, [], rfl, rfl, Nat.le_refl _, HBR.out, HBX.out, World.ownsRow_nil _ _ _ _, HB0.out, .inl ⟨rfl, rfl, rfl, rfl, rfl⟩⟩
  case round =>
    clear HBR HBX HB0
    obtain ⟨q, k, n, v, ss, rfl, rfl, hq, hr, hx, hrow, hb, hsf⟩ := hrel
    by_cases hgo : k = 0 ∨ q.size ≠ 0
    · have hwr : w.heap.size + 1 < wr.heap.size := hx.lt
      have HE := hid (HW.out.below hb)
      have HC := hid (stringsCut_any q (by omega) wr)
      obtain ⟨te, pe, hce⟩ := HE.out.noEnd
      have HR := hid hr
      have HX := hid hx
      have HROW := hid hrow
      have HB := hid hb
      have HNE := hid (sofar_end hsf hgo)
      have HST := hid fun z hz a r h1 h2 w1 h3 h4 h5 => step_line z s q m k hz n ss v (w.heap.size + 1) hm hsf hgo (by omega) a r h1 h2 w1 h3 h4 h5
      have hk9 : k ≤ 376 := by rcases hsf with h | h <;> omega
      clear hr hx hrow hb hsf
      have hcond : (k = 0 ∧ ((k : Int) == 0) = true) ∨ (((k : Int) == 0) = false ∧ (q.toList == []) = false) := by
        by_cases h0 : k = 0
        · exact .inl ⟨h0, by simp [h0]⟩
        · refine .inr ⟨by simpa using h0, ?_⟩
          have := data_ne (hgo.resolve_left h0)
          rw [ByteArray.toList_eq]
          simpa using this
      clear hgo
      rcases hcond with ⟨rfl, hc0⟩ | ⟨hc0, hc1⟩
      all_goals
        go_wp2_with fail
        refine HC.out.mono ?_
        rintro e w1 ⟨hc, hb1⟩
        have HR1 := hid (HR.out.below hb1)
        have HX1 := hid (HX.out.below hb1)
        have HROW1 := hid (Below.row hb1 HROW.out)
        have HB1 := hid (HB.out.trans (hb1.mono HB.out.size))
        have HE1 := hid (HE.out.below hb1)
        have hce1 := cell_kept hb1 hce
        clear hb1 hce HR HX HROW HB HE HC
        rcases hc with ⟨a, r, hqa, ha, rfl⟩ | ⟨hno, rfl⟩
        · have hsz := cut_size hqa
          have HL := hid fun z hz => HST.out z hz a r hqa ha w1 HE1.out HX1.out HROW1.out
          clear hqa ha hce1 HST HNE
          go_wp2_with fail
          refine (HL.out _ ?hz).mono ?_
          case hz => simp
          rintro e w2 ⟨hl, hb2⟩
          have HR2 := hid (LBox.trans2 HR1.out hb2 (by omega))
          have HB2 := hid (HB1.out.trans (hb2.mono (by omega)))
          clear hb2 HR1 HX1 HROW1 HE1
          rcases hl with ⟨rfl, n', v', ss', hx2, hrow2, hsf2⟩ | ⟨hno, tp, p, rfl⟩
          · have H1 := hid hx2
            have H2 := hid hrow2
            have H3 := hid hsf2
            clear hx2 hrow2 hsf2
            go_wp2
            exact ⟨⟨r, _, n', v', ss', rfl, by go_num, by omega, HR2.out, H1.out, H2.out, HB2.out, H3.out⟩, by simp [strSz]; omega⟩
          · have HN := hid hno
            have ra0 := fun o => (HR2.out.alloc o).c0
            have ra1 := fun o => (HR2.out.alloc o).c1
            have raf0 := fun o => (HR2.out.alloc o).fz 0
            have rb : ∀ o, LBox ((w2.alloc o).setCell ⟨w.heap.size, 0, none⟩ (.int .i64 0)) w.heap.size 0 (.slice none 0 0) := fun o => (HR2.out.alloc o).set0 _
            have rb1 := fun o => (rb o).c1
            have rbf1 := fun o => (rb o).fz 1
            have rc := fun o => (rb o).set1 (.slice none 0 0)
            have rc0 := fun o => (rc o).c0
            have rc1 := fun o => (rc o).c1
            have HB3 := hid fun o => ((HB2.out.alloc HB2.out.size o).setCell (p := ⟨w.heap.size, 0, none⟩) (Nat.le_refl _) (.int .i64 0)).setCell (p := ⟨w.heap.size, 1, none⟩) (Nat.le_refl _) (.slice none 0 0)
            clear hno rb rc
            go_wp2
            exact bodyPost_ret (v := .tuple #[.agg #[.int .i64 0, .slice none 0 0], .iface 65 (.pointer (some ⟨w2.heap.size, 0, none⟩))]) (by simp [results, Tryz.results37, go_sem, rc0, rc1]) rfl ⟨.inr ⟨HN.out, _, rfl⟩, HB3.out _⟩
        · have HN := hid (HNE.out hno)
          have r0 := HR1.out.c0
          have r1 := HR1.out.c1
          have rf0 := HR1.out.fz 0
          have y8 : LBox (w1.setCell ⟨w.heap.size, 0, none⟩ (.int .i64 0)) w.heap.size 0 (.slice none 0 0) := HR1.out.set0 _
          have s1 := y8.c1
          have sf1 := y8.fz 1
          have hg0 : 0 < w.heap.size := HG0.out
          have k2 : ((w1.setCell ⟨w.heap.size, 0, none⟩ (.int .i64 0)).setCell ⟨w.heap.size, 1, none⟩ (.slice none 0 0)).cell? ⟨0, 0, none⟩ = some (.iface te pe) := by
            rw [((grownBy_setCellAt _ w.heap.size 1 (.slice none 0 0)).cell_far ⟨0, 0, none⟩ (by have := (grownBy_setCellAt w1 w.heap.size 0 (.int .i64 0)).size; have := HX1.out.lt; show 0 < _; omega) (fun e => by simp at e; omega)), ((grownBy_setCellAt w1 w.heap.size 0 (.int .i64 0)).cell_far ⟨0, 0, none⟩ (by have := HX1.out.lt; show 0 < _; omega) (fun e => by simp at e; omega))]
            exact hce1
          have ra0 := fun o => (HR1.out.alloc o).c0
          have ra1 := fun o => (HR1.out.alloc o).c1
          have raf0 := fun o => (HR1.out.alloc o).fz 0
          have rb : ∀ o, LBox ((w1.alloc o).setCell ⟨w.heap.size, 0, none⟩ (.int .i64 0)) w.heap.size 0 (.slice none 0 0) := fun o => (HR1.out.alloc o).set0 _
          have rb1 := fun o => (rb o).c1
          have rbf1 := fun o => (rb o).fz 1
          have rc := fun o => (rb o).set1 (.slice none 0 0)
          have rc0 := fun o => (rc o).c0
          have rc1 := fun o => (rc o).c1
          have yd := fun o => (y8.set1 (.slice none 0 0)).alloc o
          have yd0 := fun o => (yd o).c0
          have yd1 := fun o => (yd o).c1
          have HB3 := hid fun o => (((HB1.out.alloc HB1.out.size o).setCell (p := ⟨w.heap.size, 0, none⟩) (Nat.le_refl _) (.int .i64 0)).setCell (p := ⟨w.heap.size, 1, none⟩) (Nat.le_refl _) (.slice none 0 0)).drew
          have HB4 := hid fun o => (((HB1.out.setCell (p := ⟨w.heap.size, 0, none⟩) (Nat.le_refl _) (.int .i64 0)).setCell (p := ⟨w.heap.size, 1, none⟩) (Nat.le_refl _) (.slice none 0 0)).alloc (by have := HX1.out.lt; have := ((KeepsWalks.setCell (w1.setCell ⟨w.heap.size, 0, none⟩ (.int .i64 0)) ⟨w.heap.size, 1, none⟩ (.slice none 0 0)).size); have := ((KeepsWalks.setCell w1 ⟨w.heap.size, 0, none⟩ (.int .i64 0)).size); omega) o).drew
          clear y8 rb rc hno yd HNE HST
          go_wp2_with fail
          go_region
          all_goals
            go_wp2
            first
            | exact bodyPost_ret (v := .tuple #[.agg #[.int .i64 0, .slice none 0 0], .iface 65 (.pointer (some ⟨w1.heap.size, 0, none⟩))]) (by simp [results, Tryz.results37, go_sem, rc0, rc1]) rfl ⟨.inr ⟨HN.out, _, rfl⟩, HB3.out _⟩
            | exact bodyPost_ret (v := .tuple #[.agg #[.int .i64 0, .slice none 0 0], .iface 65 (.pointer (some ⟨w1.heap.size, 0, none⟩))]) (by simp [results, Tryz.results37, go_sem, yd0, yd1]) rfl ⟨.inr ⟨HN.out, _, rfl⟩, HB4.out _⟩
    · have hk0 : k ≠ 0 := fun h => hgo (.inl h)
      obtain rfl : q = ⟨#[]⟩ := empty_of (Decidable.byContradiction fun h => hgo (.inr h))
      obtain ⟨hok, hfm⟩ := sofar_done hm (by omega) hsf
      have hc0 : ((k : Int) == 0) = false := by simpa using hk0
      obtain ⟨av, cv, rfl, _⟩ := row_form hrow
      have x0 := hx.c0
      have x1 := hx.c1
      have r0 := hr.c0
      have rf0 := hr.fz 0
      have y8 : LBox (wr.setCell ⟨w.heap.size, 0, none⟩ (.int .i64 n)) w.heap.size n (.slice none 0 0) := hr.set0 _
      have s1 := y8.c1
      have sf1 := y8.fz 1
      have y9 := y8.set1 (.slice av ss.length cv)
      have HROW := hid hrow
      have HB := hid hb
      have HOK := hid (And.intro hok hfm)
      clear hx hr hrow hb hsf hok hfm hgo y8 hk0
      go_wp2
      refine bodyPost_ret (v := .tuple #[.agg #[.int .i64 n, .slice av ss.length cv], .nilIface]) (by simp [results, Tryz.results37, go_sem, y9.c0, y9.c1]) rfl ⟨.inl ⟨n, ss, _, HOK.out.1, HOK.out.2, rfl, ?_⟩, ?_⟩
      · have h1 := row_kept (row_kept HROW.out (grownBy_setCellAt wr w.heap.size 0 (.int .i64 n)) (by omega)) (grownBy_setCellAt _ w.heap.size 1 (.slice av ss.length cv)) (by omega)
        exact ownsRow_base h1 (by omega)
      · exact (HB.out.setCell (p := ⟨w.heap.size, 0, none⟩) (Nat.le_refl _) _).setCell (p := ⟨w.heap.size, 1, none⟩) (Nat.le_refl _) _
end Go.Proofs.YtfamkeligbiidaaGreatDoor
