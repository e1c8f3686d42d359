/- impl.readSize: the first line. -/
import Derived.Test.YtifbdddhmbnfpaaGreatDoorShelfR
import Derived.Test.YtifbdddhmbnfpaaGreatDoorReadMath
namespace Go.Proofs.YtifbdddhmbnfpaaGreatDoor
open Go.RowKit Go.Shelf
theorem cutPrefix_any (s p : ByteArray) (w : World) :
    Calls Tryz.prog 86 #[.string s, .string p] w fun e w' => e = .returned (.tuple #[.string ⟨(Lib.trimPrefix s.data.toList p.data.toList).toArray⟩, .bool (Lib.hasPrefix s.data.toList p.data.toList)]) ∧ w' = w :=
  Any.strings_CutPrefix lays103 s p w
theorem indexByte_any (s : ByteArray) (c : Int) (w : World) : Calls Tryz.prog 88 #[.string s, .int .u8 c] w fun e w' => e = .returned (.int .i64 (Lib.indexByte s.data.toList c.toNat.toUInt8)) ∧ w' = w :=
  Any.strings_IndexByte lays137 s c w
theorem index_one (s : ByteArray) (c : UInt8) (w : World) : Calls Tryz.prog 85 #[.string s, .string ⟨#[c]⟩] w fun e w' => e = .returned (.int .i64 (Lib.indexByte s.data.toList c)) ∧ w' = w :=
  Any.stringslite_Index_one lays219 s c w
/-- The variables that reading a list reads. -/
structure Errs (w : World) : Prop where
  syn : ∃ tp p, w.cell? ⟨9, 0, none⟩ = some (.iface tp p)
  rng : ∃ tp p, w.cell? ⟨10, 0, none⟩ = some (.iface tp p)
  noEnd : ∃ tp p, w.cell? ⟨0, 0, none⟩ = some (.iface tp p)
  many : ∃ tp p, w.cell? ⟨2, 0, none⟩ = some (.iface tp p)
  size : ∃ tp p, w.cell? ⟨3, 0, none⟩ = some (.iface tp p)
  sum : ∃ tp p, w.cell? ⟨4, 0, none⟩ = some (.iface tp p)
  typ : w.cell? ⟨1, 0, none⟩ = some (.iface 118 (.agg #[.pointer (some ⟨11, 55, none⟩)]))
  tab : Lib.TabIs Tryz.prog w "internal/strconv.uint64pow10" .u64 Lib.pow10Tab
theorem cell_kept {w w' : World} (hb : Below w.heap.size w w') {a : Addr} {v : Value} (h : w.cell? a = some v) : w'.cell? a = some v :=
  (hb.cell (World.block_lt_of_cell? w a h)).trans h
theorem Errs.below {w w' : World} (h : Errs w) (hb : Below w.heap.size w w') : Errs w' where
  syn := h.syn.imp fun _ x => x.imp fun _ e => cell_kept hb e
  rng := h.rng.imp fun _ x => x.imp fun _ e => cell_kept hb e
  noEnd := h.noEnd.imp fun _ x => x.imp fun _ e => cell_kept hb e
  many := h.many.imp fun _ x => x.imp fun _ e => cell_kept hb e
  size := h.size.imp fun _ x => x.imp fun _ e => cell_kept hb e
  sum := h.sum.imp fun _ x => x.imp fun _ e => cell_kept hb e
  typ := cell_kept hb h.typ
  tab := tab_below h.tab hb
/-! What strconv.Atoi makes of a decimal -/
def valF (acc : Nat) (l : List UInt8) : Nat := l.foldl (fun v b => v * 10 + (b.toNat - 48)) acc
theorem valF_ge : ∀ (l : List UInt8) (acc : Nat), acc ≤ valF acc l
  | [], acc => Nat.le_refl _
  | b :: l, acc => by
    have := valF_ge l (acc * 10 + (b.toNat - 48))
    show acc ≤ valF (acc * 10 + (b.toNat - 48)) l
    omega
theorem parse_digits : ∀ (l : List UInt8) (acc : Nat), (∀ b ∈ l, 48 ≤ b.toNat ∧ b.toNat ≤ 57) → valF acc l < 1000000 → Lib.parseUint10 acc l = .ok (valF acc l)
  | [], acc, _, _ => rfl
  | b :: l, acc, hd, hv => by
    have hb := hd b (by simp)
    have hv' : valF (acc * 10 + (b.toNat - 48)) l < 1000000 := hv
    have hg := valF_ge l (acc * 10 + (b.toNat - 48))
    have ih := parse_digits l (acc * 10 + (b.toNat - 48)) (fun x hx => hd x (by simp [hx])) hv'
    unfold Lib.parseUint10
    rw [if_pos hb, if_neg (by omega), if_neg (by omega), ih]
    rfl
theorem atoi_dec (n : Nat) (h : n ≤ 3000) : Lib.atoiAll (Lib.decDigits n) = .ok (n : Int) := by
  have hd := dec_digits n n (Nat.le_refl _)
  have hv := (valD_dec n n (Nat.le_refl _)).1
  have hl := (dec_len4 n (by omega)).1
  have hp := parse_digits (Lib.decDigits n) 0 hd (by show valD _ < _; omega)
  have hv2 : valF 0 (Lib.decDigits n) = n := hv
  rw [hv2] at hp
  generalize Lib.decDigits n = l at *
  cases l with
  | nil => simp at hl
  | cons c r =>
    have hc := hd c (by simp)
    have e1 : ¬ (c.toNat = 43 ∨ c.toNat = 45) := by omega
    have e2 : ¬ (c.toNat = 45) := by omega
    simp only [Lib.atoiAll, Lib.parseMag, if_neg e1, reduceCtorEq, if_false, hp]
    rw [if_neg (by omega), if_neg (fun h => e2 h.1), if_neg e2]
theorem atoi_any (s : ByteArray) (hs : s.size ≤ 281474976710656) (w : World) (hw : Errs w) :
    Calls Tryz.prog 87 #[.string s] w fun e w' => ((∃ v : Int, Lib.atoiAll s.data.toList = .ok v ∧ e = .returned (.tuple #[.int .i64 v, .nilIface])) ∨ ((∀ v, Lib.atoiAll s.data.toList ≠ .ok v) ∧ ∃ (x : Int) (tp : TypeId) (p : Value), e = .returned (.tuple #[.int .i64 x, .iface tp p]))) ∧ Below w.heap.size w w' := by
  obtain ⟨t1, p1, h1⟩ := hw.syn
  obtain ⟨t2, p2, h2⟩ := hw.rng
  cases h : Lib.atoiAll s.data.toList with
  | ok v =>
    refine (Any.strconv_Atoi_ok laysC172 s (by omega) v h w).mono ?_
    rintro e w' ⟨rfl, hw'⟩
    refine ⟨.inl ⟨v, rfl, rfl⟩, ?_⟩
    rcases hw' with rfl | ⟨t, rfl⟩
    · exact Below.refl _ _
    · exact Lib.bytesWorld_below _ _ _
  | «syntax» =>
    refine (Any.strconv_Atoi_syntax laysC172 s hs h (.iface t1 p1) w h1 (.inr ⟨_, _, rfl⟩)).mono ?_
    rintro e w' ⟨N, rfl, _, _, hb⟩
    exact ⟨.inr ⟨fun v => (by simp), _, _, _, rfl⟩, hb⟩
  | range =>
    refine (Any.strconv_Atoi_range laysC172 s hs h (.iface t2 p2) w h2 (.inr ⟨_, _, rfl⟩)).mono ?_
    rintro e w' ⟨N, rfl, _, _, hb⟩
    exact ⟨.inr ⟨fun v => (by simp), _, _, _, rfl⟩, hb⟩
/-- What readSize answers. -/
def SizeR (line : ByteArray) (e : Ending) : Prop :=
  (∃ n : Nat, n ≤ 3000 ∧ [115, 105, 122, 101, 32] ++ Lib.decDigits n = line.data.toList ∧ e = .returned (.tuple #[.int .i64 n, .nilIface])) ∨ ((∀ n : Nat, n ≤ 3000 → [115, 105, 122, 101, 32] ++ Lib.decDigits n ≠ line.data.toList) ∧ ∃ (tp : TypeId) (p : Value), e = .returned (.tuple #[.int .i64 0, .iface tp p]))
theorem pre_of (n : Nat) {l : List UInt8} (h : [115, 105, 122, 101, 32] ++ Lib.decDigits n = l) : Lib.hasPrefix l [115, 105, 122, 101, 32] = true ∧ Lib.trimPrefix l [115, 105, 122, 101, 32] = Lib.decDigits n := by
  have h1 : Lib.hasPrefix l [115, 105, 122, 101, 32] = true := by
    unfold Lib.hasPrefix
    rw [List.isPrefixOf_iff_prefix, ← h]
    exact List.prefix_append _ _
  refine ⟨h1, ?_⟩
  unfold Lib.trimPrefix
  rw [h1, ← h]
  simp
theorem pre_back {l : List UInt8} (h : Lib.hasPrefix l [115, 105, 122, 101, 32] = true) : [115, 105, 122, 101, 32] ++ Lib.trimPrefix l [115, 105, 122, 101, 32] = l := by
  unfold Lib.trimPrefix
  rw [if_pos h]
  unfold Lib.hasPrefix at h
  rw [List.isPrefixOf_iff_prefix] at h
  obtain ⟨t, rfl⟩ := h
  simp
theorem trim_len (l p : List UInt8) : (Lib.trimPrefix l p).length ≤ l.length := by
  unfold Lib.trimPrefix
  split
  · rw [List.length_drop]; omega
  · exact Nat.le_refl _
/-- What Atoi answers of a text. -/
def AtoR (dg : List UInt8) (e : Ending) : Prop := (∃ v : Int, Lib.atoiAll dg = .ok v ∧ e = .returned (.tuple #[.int .i64 v, .nilIface])) ∨ ((∀ v, Lib.atoiAll dg ≠ .ok v) ∧ ∃ (x : Int) (tp : TypeId) (p : Value), e = .returned (.tuple #[.int .i64 x, .iface tp p]))
set_option maxRecDepth 100000 in
set_option maxHeartbeats 1000000 in
theorem readSize_walk (line d : ByteArray) (found : Bool) (w : World) (hw : Errs w) (hP : Hid (∀ W, Calls Tryz.prog 86 #[.string line, .string ⟨#[115, 105, 122, 101, 32]⟩] W fun e w' => e = .returned (.tuple #[.string d, .bool found]) ∧ w' = W))
    (hA : Hid (∀ W, Errs W → Calls Tryz.prog 87 #[.string d] W fun e w' => AtoR d.data.toList e ∧ Below W.heap.size W w'))
    (hN : Hid (∀ n : Nat, n ≤ 3000 → [115, 105, 122, 101, 32] ++ Lib.decDigits n = line.data.toList → found = true ∧ decB n = d ∧ Lib.atoiAll d.data.toList = .ok (n : Int)))
    (hY : Hid (found = true → ∀ n : Nat, decB n = d → [115, 105, 122, 101, 32] ++ Lib.decDigits n = line.data.toList)) :
    Calls Tryz.prog 75 #[.string line] w fun e w' => SizeR line e ∧ Below w.heap.size w w' := by
  have HW := hid hw
  have HIT := hid fun (v : Nat) (hv : v ≤ 3000) W (h : Errs W) => itoa_any v (by omega) W h.tab
  clear hw
  go_enter Tryz.func75, Tryz.ntmps75
  go_wp2_with fail
  refine (hP.out _).mono ?_
  rintro e w' ⟨rfl, rfl⟩
  go_wp2_with fail
  refine (hA.out _ HW.out).mono ?_
  rintro e w1 ⟨hat, hb1⟩
  have HW1 := hid (HW.out.below hb1)
  have HB1 := hid hb1
  obtain ⟨tn, pn, hns⟩ := HW1.out.size
  clear hb1 hP hA HW
  rcases hat with ⟨v, hv, rfl⟩ | ⟨hv, x, tp, p, rfl⟩
  · cases found with
    | false =>
      have HN : Hid (SizeR line (.returned (.tuple #[.int .i64 0, .iface tn pn]))) := .inr ⟨fun n hn h => (by have := (hN.out n hn h).1; contradiction), _, _, rfl⟩
      clear hv hN hY HIT HW1
      go_wp2_with fail
      go_region
      all_goals
        go_wp2
        go_ret2
        exact ⟨HN.out, HB1.out.drew⟩
    | true =>
      have hu : ∀ n : Nat, n ≤ 3000 → [115, 105, 122, 101, 32] ++ Lib.decDigits n = line.data.toList → v = n ∧ decB n = d := fun n hn h => by
        obtain ⟨_, h2, h3⟩ := hN.out n hn h
        rw [hv] at h3
        injection h3 with h3
        exact ⟨h3, h2⟩
      by_cases hz : 0 ≤ v ∧ v ≤ 3000
      · obtain ⟨n, rfl⟩ := Int.eq_ofNat_of_zero_le hz.1
        have hn : n ≤ 3000 := by omega
        have HI := hid (HIT.out n hn w1 HW1.out)
        have HY := hid fun (h : decB n = d) => hY.out rfl n h
        have HU := hid hu
        clear hv hN hY HIT hu
        have hdz : decide (0 ≤ (n : Int) ∧ (n : Int) ≤ 3000) = true := by simpa using hz
        by_cases he : (decB n).toList = d.toList
        · have he' : ((decB n).toList == d.toList) = true := by simpa using he
          have HE : Hid (SizeR line (.returned (.tuple #[.int .i64 n, .nilIface]))) := .inl ⟨n, hn, HY.out (bytes_ext (by rwa [ByteArray.toList_eq, ByteArray.toList_eq] at he)), rfl⟩
          clear he HY HU
          generalize decB n = dn at *
          go_wp2_with (first | (go_at_call 55; refine (isSize_any _ _).mono ?_; rintro e w' ⟨rfl, rfl⟩; rw [hdz]) | (go_at_call 26; refine HI.out.mono ?_; rintro e w2 ⟨rfl, hb2⟩; have HB2 := hid (HB1.out.trans (hb2.mono HB1.out.size)); clear hb2))
          go_ret2
          exact ⟨HE.out, HB2.out⟩
        · have he' : ((decB n).toList == d.toList) = false := by simpa using he
          have HE : Hid (SizeR line (.returned (.tuple #[.int .i64 0, .iface tn pn]))) := .inr ⟨fun k hk h => by
            obtain ⟨e1, e2⟩ := HU.out k hk h
            have : n = k := by omega
            subst this
            exact he (by rw [e2]), _, _, rfl⟩
          have hnl : 3 < w1.heap.size := World.block_lt_of_cell? w1 ⟨3, 0, none⟩ hns
          clear he HY HU
          generalize decB n = dn at *
          go_wp2_with (first | (go_at_call 55; refine (isSize_any _ _).mono ?_; rintro e w' ⟨rfl, rfl⟩; rw [hdz]) | (go_at_call 26; refine HI.out.mono ?_; rintro e w2 ⟨rfl, hb2⟩; have hns2 := cell_kept hb2 hns; have HB2 := hid (HB1.out.trans (hb2.mono HB1.out.size)); clear hb2))
          go_region
          all_goals
            go_wp2
            go_ret2
            exact ⟨HE.out, HB2.out.drew⟩
      · have HE : Hid (SizeR line (.returned (.tuple #[.int .i64 0, .iface tn pn]))) := .inr ⟨fun k hk h => hz (by rw [(hu k hk h).1]; omega), _, _, rfl⟩
        have hdz : decide (0 ≤ v ∧ v ≤ 3000) = false := by simpa using hz
        clear hv hN hY HIT hu hz
        go_wp2_with (first | (go_at_call 55; refine (isSize_any _ _).mono ?_; rintro e w' ⟨rfl, rfl⟩; rw [hdz]))
        go_region
        all_goals
          go_wp2
          go_ret2
          exact ⟨HE.out, HB1.out.drew⟩
  · have HN : Hid (SizeR line (.returned (.tuple #[.int .i64 0, .iface tn pn]))) := .inr ⟨fun n hn h => hv _ (hN.out n hn h).2.2, _, _, rfl⟩
    clear hv hN hY HIT HW1
    cases found with
    | true =>
      go_wp2_with fail
      go_region
      all_goals
        go_wp2
        go_ret2
        exact ⟨HN.out, HB1.out.drew⟩
    | false =>
      go_wp2_with fail
      go_region
      all_goals
        go_wp2
        go_ret2
        exact ⟨HN.out, HB1.out.drew⟩
theorem readSize_any (line : ByteArray) (hs : line.size ≤ 281474976710656) (w : World) (hw : Errs w) :
    Calls Tryz.prog 75 #[.string line] w fun e w' => SizeR line e ∧ Below w.heap.size w w' := by
  have hdz : (⟨(Lib.trimPrefix line.data.toList [115, 105, 122, 101, 32]).toArray⟩ : ByteArray).size ≤ 281474976710656 := by
    have h1 := trim_len line.data.toList [115, 105, 122, 101, 32]
    have h2 : line.data.toList.length = line.size := by rw [Array.length_toList]; rfl
    show (Lib.trimPrefix line.data.toList [115, 105, 122, 101, 32]).toArray.size ≤ _
    rw [List.size_toArray]
    omega
  refine readSize_walk line ⟨(Lib.trimPrefix line.data.toList [115, 105, 122, 101, 32]).toArray⟩ (Lib.hasPrefix line.data.toList [115, 105, 122, 101, 32]) w hw (hid fun W => cutPrefix_any line ⟨#[115, 105, 122, 101, 32]⟩ W) (hid fun W h => atoi_any _ hdz W h) (hid fun n hn h => ?_) (hid fun hf n h => ?_)
  · obtain ⟨h1, h2⟩ := pre_of n h
    refine ⟨h1, bytes_ext ?_, ?_⟩
    · show (Lib.decDigits n).toArray.toList = (Lib.trimPrefix _ _).toArray.toList
      rw [h2]
    · show Lib.atoiAll (Lib.trimPrefix _ _).toArray.toList = _
      rw [h2]; exact atoi_dec n hn
  · have h2 := pre_back hf
    have h3 := decB_data h
    rw [show (⟨(Lib.trimPrefix line.data.toList [115, 105, 122, 101, 32]).toArray⟩ : ByteArray).data.toList = Lib.trimPrefix line.data.toList [115, 105, 122, 101, 32] from rfl] at h3
    rw [h3]
    exact h2
end Go.Proofs.YtifbdddhmbnfpaaGreatDoor
