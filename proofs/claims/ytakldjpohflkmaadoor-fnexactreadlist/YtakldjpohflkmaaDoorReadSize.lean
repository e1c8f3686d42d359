/- impl.readSize: the first line. -/
import Derived.Test.YtakldjpohflkmaaDoorShelfR
import Derived.Test.YtakldjpohflkmaaDoorReadMath
namespace Go.Proofs.YtakldjpohflkmaaDoor
open Go.RowKit Go.Shelf
theorem cutPrefix_any (s p : ByteArray) (w : World) :
    Calls Tryd.prog 59 #[.string s, .string p] w fun e w' => e = .returned (.tuple #[.string ⟨(Lib.trimPrefix s.data.toList p.data.toList).toArray⟩, .bool (Lib.hasPrefix s.data.toList p.data.toList)]) ∧ w' = w :=
  Any.strings_CutPrefix lays103 s p w
theorem indexByte_any (s : ByteArray) (c : Int) (w : World) : Calls Tryd.prog 61 #[.string s, .int .u8 c] w fun e w' => e = .returned (.int .i64 (Lib.indexByte s.data.toList c.toNat.toUInt8)) ∧ w' = w :=
  Any.strings_IndexByte lays137 s c w
theorem index_one (s : ByteArray) (c : UInt8) (w : World) : Calls Tryd.prog 58 #[.string s, .string ⟨#[c]⟩] w fun e w' => e = .returned (.int .i64 (Lib.indexByte s.data.toList c)) ∧ w' = w :=
  Any.stringslite_Index_one lays219 s c w
/-- The variables that reading a list reads. -/
structure Errs (w : World) : Prop where
  syn : ∃ tp p, w.cell? ⟨9, 0, none⟩ = some (.iface tp p)
  rng : ∃ tp p, w.cell? ⟨10, 0, none⟩ = some (.iface tp p)
  noEnd : ∃ tp p, w.cell? ⟨0, 0, none⟩ = some (.iface tp p)
  many : ∃ tp p, w.cell? ⟨2, 0, none⟩ = some (.iface tp p)
  size : ∃ tp p, w.cell? ⟨3, 0, none⟩ = some (.iface tp p)
  sum : ∃ tp p, w.cell? ⟨4, 0, none⟩ = some (.iface tp p)
  typ : w.cell? ⟨1, 0, none⟩ = some (.iface 86 (.agg #[.pointer (some ⟨11, 45, none⟩)]))
  tab : Lib.TabIs Tryd.prog w "internal/strconv.uint64pow10" .u64 Lib.pow10Tab
theorem cell_kept {w w' : World} (hb : Below w.heap.size w w') {a : Addr} {v : Value} (h : w.cell? a = some v) : w'.cell? a = some v :=
  (hb.cell (World.block_lt_of_cell? w a h)).trans h
theorem Errs.below {w w' : World} (h : Errs w) (hb : Below w.heap.size w w') : Errs w' where
  syn := h.syn.imp fun _ x => x.imp fun _ e => cell_kept hb e
  rng := h.rng.imp fun _ x => x.imp fun _ e => cell_kept hb e
  noEnd := h.noEnd.imp fun _ x => x.imp fun _ e => cell_kept hb e
  many := h.many.imp fun _ x => x.imp fun _ e => cell_kept hb e
  size := h.size.imp fun _ x => x.imp fun _ e => cell_kept hb e
  sum := h.sum.imp fun _ x => x.imp fun _ e => cell_kept hb e
  typ := cell_kept hb h.typ
  tab := tab_below h.tab hb
/-! What strconv.Atoi makes of a decimal -/
def valF (acc : Nat) (l : List UInt8) : Nat := l.foldl (fun v b => v * 10 + (b.toNat - 48)) acc
theorem valF_ge : ∀ (l : List UInt8) (acc : Nat), acc ≤ valF acc l
  | [], acc => Nat.le_refl _
  | b :: l, acc => by
    have := valF_ge l (acc * 10 + (b.toNat - 48))
    show acc ≤ valF (acc * 10 + (b.toNat - 48)) l
    omega
theorem parse_digits : ∀ (l : List UInt8) (acc : Nat), (∀ b ∈ l, 48 ≤ b.toNat ∧ b.toNat ≤ 57) → valF acc l < 1000000 → Lib.parseUint10 acc l = .ok (valF acc l)
  | [], acc, _, _ => rfl
  | b :: l, acc, hd, hv => by
    have hb := hd b (by simp)
    have hv' : valF (acc * 10 + (b.toNat - 48)) l < 1000000 := hv
    have hg := valF_ge l (acc * 10 + (b.toNat - 48))
    have ih := parse_digits l (acc * 10 + (b.toNat - 48)) (fun x hx => hd x (by simp [hx])) hv'
    unfold Lib.parseUint10
    rw [if_pos hb, if_neg (by omega), if_neg (by omega), ih]
    rfl
theorem atoi_dec (n : Nat) (h : n ≤ 9999) : Lib.atoiAll (Lib.decDigits n) = .ok (n : Int) := by
  have hd := dec_digits n n (Nat.le_refl _)
  have hv := (valD_dec n n (Nat.le_refl _)).1
  have hl := (dec_len4 n (by omega)).1
  have hp := parse_digits (Lib.decDigits n) 0 hd (by show valD _ < _; omega)
  have hv2 : valF 0 (Lib.decDigits n) = n := hv
  rw [hv2] at hp
  generalize Lib.decDigits n = l at *
  cases l with
  | nil => simp at hl
  | cons c r =>
    have hc := hd c (by simp)
    have e1 : ¬ (c.toNat = 43 ∨ c.toNat = 45) := by omega
    have e2 : ¬ (c.toNat = 45) := by omega
    simp only [Lib.atoiAll, Lib.parseMag, if_neg e1, reduceCtorEq, if_false, hp]
    rw [if_neg (by omega), if_neg (fun h => e2 h.1), if_neg e2]
theorem atoi_any (s : ByteArray) (hs : s.size ≤ 281474976710656) (w : World) (hw : Errs w) :
    Calls Tryd.prog 72 #[.string s] w fun e w' => ((∃ v : Int, Lib.atoiAll s.data.toList = .ok v ∧ e = .returned (.tuple #[.int .i64 v, .nilIface])) ∨ ((∀ v, Lib.atoiAll s.data.toList ≠ .ok v) ∧ ∃ (x : Int) (tp : TypeId) (p : Value), e = .returned (.tuple #[.int .i64 x, .iface tp p]))) ∧ Below w.heap.size w w' := by
  obtain ⟨t1, p1, h1⟩ := hw.syn
  obtain ⟨t2, p2, h2⟩ := hw.rng
  cases h : Lib.atoiAll s.data.toList with
  | ok v =>
    refine (Any.strconv_Atoi_ok laysC172 s (by omega) v h w).mono ?_
    rintro e w' ⟨rfl, hw'⟩
    refine ⟨.inl ⟨v, rfl, rfl⟩, ?_⟩
    rcases hw' with rfl | ⟨t, rfl⟩
    · exact Below.refl _ _
    · exact Lib.bytesWorld_below _ _ _
  | «syntax» =>
    refine (Any.strconv_Atoi_syntax laysC172 s hs h (.iface t1 p1) w h1 (.inr ⟨_, _, rfl⟩)).mono ?_
    rintro e w' ⟨N, rfl, _, _, hb⟩
    exact ⟨.inr ⟨fun v => (by simp), _, _, _, rfl⟩, hb⟩
  | range =>
    refine (Any.strconv_Atoi_range laysC172 s hs h (.iface t2 p2) w h2 (.inr ⟨_, _, rfl⟩)).mono ?_
    rintro e w' ⟨N, rfl, _, _, hb⟩
    exact ⟨.inr ⟨fun v => (by simp), _, _, _, rfl⟩, hb⟩
/-- What readSize answers. -/
def SizeR (line : ByteArray) (e : Ending) : Prop :=
  (∃ n : Nat, n ≤ 3000 ∧ [115, 105, 122, 101, 32] ++ Lib.decDigits n = line.data.toList ∧ e = .returned (.tuple #[.int .i64 n, .nilIface])) ∨ ((∀ n : Nat, n ≤ 3000 → [115, 105, 122, 101, 32] ++ Lib.decDigits n ≠ line.data.toList) ∧ ∃ (tp : TypeId) (p : Value), e = .returned (.tuple #[.int .i64 0, .iface tp p]))
theorem pre_of (n : Nat) {l : List UInt8} (h : [115, 105, 122, 101, 32] ++ Lib.decDigits n = l) : Lib.hasPrefix l [115, 105, 122, 101, 32] = true ∧ Lib.trimPrefix l [115, 105, 122, 101, 32] = Lib.decDigits n := by
  have h1 : Lib.hasPrefix l [115, 105, 122, 101, 32] = true := by
    unfold Lib.hasPrefix
    rw [List.isPrefixOf_iff_prefix, ← h]
    exact List.prefix_append _ _
  refine ⟨h1, ?_⟩
  unfold Lib.trimPrefix
  rw [h1, ← h]
  simp
theorem pre_back {l : List UInt8} (h : Lib.hasPrefix l [115, 105, 122, 101, 32] = true) : [115, 105, 122, 101, 32] ++ Lib.trimPrefix l [115, 105, 122, 101, 32] = l := by
  unfold Lib.trimPrefix
  rw [if_pos h]
  unfold Lib.hasPrefix at h
  rw [List.isPrefixOf_iff_prefix] at h
  obtain ⟨t, rfl⟩ := h
  simp
theorem trim_len (l p : List UInt8) : (Lib.trimPrefix l p).length ≤ l.length := by
  unfold Lib.trimPrefix
  split
  · rw [List.length_drop]; omega
  · exact Nat.le_refl _
/-- What Atoi answers of a text. -/
def AtoR (dg : List UInt8) (e : Ending) : Prop := (∃ v : Int, Lib.atoiAll dg = .ok v ∧ e = .returned (.tuple #[.int .i64 v, .nilIface])) ∨ ((∀ v, Lib.atoiAll dg ≠ .ok v) ∧ ∃ (x : Int) (tp : TypeId) (p : Value), e = .returned (.tuple #[.int .i64 x, .iface tp p]))
theorem atoi_le {l : List UInt8} {v : Int} (h : Lib.atoiAll l = .ok v) : v ≤ 9223372036854775807 := by
  unfold Lib.atoiAll at h
  split at h
  · cases h
  · dsimp only at h
    split at h
    · cases h
    · cases h
    · split at h
      · cases h
      · split at h
        · cases h
        · injection h with h
          split at h <;> omega
theorem itoa_big (n : Nat) (hn : n ≤ 9223372036854775807) (w : World) (htab : Lib.TabIs Tryd.prog w "internal/strconv.uint64pow10" .u64 Lib.pow10Tab) :
    Calls Tryd.prog 21 #[.int .i64 n] w fun e w' => e = .returned (.string (decB n)) ∧ Below w.heap.size w w' := by
  refine (Any.strconv_Itoa itLays (n : Int) (by omega) (by omega) w htab).mono ?_
  rintro e w' ⟨rfl, k, os, rfl⟩
  refine ⟨?_, Lib.below_grow w.heap.size w (Nat.le_refl _) k os⟩
  have : Lib.itoa (n : Int) = Lib.decDigits n := by unfold Lib.itoa; rw [if_neg (by omega)]; simp
  rw [this]; rfl
/-- What readDecimal answers. -/
def DecR (d : ByteArray) (e : Ending) : Prop :=
  (∃ n : Nat, n ≤ 9223372036854775807 ∧ decB n = d ∧ e = .returned (.tuple #[.int .i64 n, .bool true])) ∨ ((∀ n : Nat, n ≤ 9999 → decB n ≠ d) ∧ e = .returned (.tuple #[.int .i64 0, .bool false]))
set_option maxRecDepth 100000 in
set_option maxHeartbeats 1000000 in
theorem readDecimal_any (d : ByteArray) (hs : d.size ≤ 281474976710656) (w : World) (hw : Errs w) :
    Calls Tryd.prog 60 #[.string d] w fun e w' => DecR d e ∧ Below w.heap.size w w' := by
  have HW := hid hw
  have HA := hid (atoi_any d hs w hw)
  have HIT := hid fun (v : Nat) (hv : v ≤ 9223372036854775807) W (h : Errs W) => itoa_big v hv W h.tab
  have HK : Hid (∀ k : Nat, k ≤ 9999 → decB k = d → Lib.atoiAll d.data.toList = .ok (k : Int)) := fun k hk h => by
    rw [← decB_data h]; exact atoi_dec k hk
  clear hw hs
  go_enter Tryd.func60, Tryd.ntmps60
  go_wp2_with fail
  refine HA.out.mono ?_
  rintro e w1 ⟨hat, hb1⟩
  have HW1 := hid (HW.out.below hb1)
  have HB1 := hid hb1
  clear hb1 HA HW
  rcases hat with ⟨v, hv, rfl⟩ | ⟨hv, x, tp, p, rfl⟩
  · by_cases hz : 0 ≤ v
    · have hle := atoi_le hv
      obtain ⟨n, rfl⟩ := Int.eq_ofNat_of_zero_le hz
      have hn : n ≤ 9223372036854775807 := by omega
      have HI := hid (HIT.out n hn w1 HW1.out)
      have hzz : ¬ ((n : Int) < 0) := by omega
      by_cases he : (decB n).toList = d.toList
      · have he' : ((decB n).toList == d.toList) = true := by simpa using he
        have HE : Hid (DecR d (.returned (.tuple #[.int .i64 n, .bool true]))) := .inl ⟨n, hn, bytes_ext (by rwa [ByteArray.toList_eq, ByteArray.toList_eq] at he), rfl⟩
        clear he hv HIT hn HK hle hz
        generalize decB n = dn at *
        go_wp2_with (go_at_call 21; refine HI.out.mono ?_; rintro e w2 ⟨rfl, hb2⟩; have HB2 := hid (HB1.out.trans (hb2.mono HB1.out.size)); clear hb2)
        go_ret2
        exact ⟨HE.out, HB2.out⟩
      · have he' : ((decB n).toList == d.toList) = false := by simpa using he
        have HE : Hid (DecR d (.returned (.tuple #[.int .i64 0, .bool false]))) := .inr ⟨fun k hk h => by
          have e1 := HK.out k hk h
          rw [hv] at e1
          injection e1 with e1
          have : n = k := by omega
          subst this
          exact he (by rw [h]), rfl⟩
        clear he hv HIT hn HK hle hz
        generalize decB n = dn at *
        go_wp2_with (go_at_call 21; refine HI.out.mono ?_; rintro e w2 ⟨rfl, hb2⟩; have HB2 := hid (HB1.out.trans (hb2.mono HB1.out.size)); clear hb2)
        go_ret2
        exact ⟨HE.out, HB2.out⟩
    · have HE : Hid (DecR d (.returned (.tuple #[.int .i64 0, .bool false]))) := .inr ⟨fun k hk h => by
        have e1 := HK.out k hk h
        rw [hv] at e1
        injection e1 with e1
        omega, rfl⟩
      have hzz : v < 0 := by omega
      clear hv HIT HK hz
      go_wp2_with fail
      go_ret2
      exact ⟨HE.out, HB1.out⟩
  · have HE : Hid (DecR d (.returned (.tuple #[.int .i64 0, .bool false]))) := .inr ⟨fun k hk h => hv _ (HK.out k hk h), rfl⟩
    clear hv HIT HK
    go_wp2_with fail
    go_ret2
    exact ⟨HE.out, HB1.out⟩
set_option maxRecDepth 100000 in
set_option maxHeartbeats 1000000 in
theorem readSize_walk (line d : ByteArray) (found : Bool) (w : World) (hw : Errs w) (hP : Hid (∀ W, Calls Tryd.prog 59 #[.string line, .string ⟨#[115, 105, 122, 101, 32]⟩] W fun e w' => e = .returned (.tuple #[.string d, .bool found]) ∧ w' = W))
    (hA : Hid (∀ W, Errs W → Calls Tryd.prog 60 #[.string d] W fun e w' => DecR d e ∧ Below W.heap.size W w'))
    (hN : Hid (∀ n : Nat, n ≤ 3000 → [115, 105, 122, 101, 32] ++ Lib.decDigits n = line.data.toList → found = true ∧ decB n = d))
    (hY : Hid (found = true → ∀ n : Nat, decB n = d → [115, 105, 122, 101, 32] ++ Lib.decDigits n = line.data.toList)) :
    Calls Tryd.prog 49 #[.string line] w fun e w' => SizeR line e ∧ Below w.heap.size w w' := by
  have HW := hid hw
  clear hw
  go_enter Tryd.func49, Tryd.ntmps49
  go_wp2_with fail
  refine (hP.out _).mono ?_
  rintro e w' ⟨rfl, rfl⟩
  go_wp2_with fail
  refine (hA.out _ HW.out).mono ?_
  rintro e w1 ⟨hat, hb1⟩
  have HW1 := hid (HW.out.below hb1)
  have HB1 := hid hb1
  obtain ⟨tn, pn, hns⟩ := HW1.out.size
  clear hb1 hP hA HW
  rcases hat with ⟨n, hn, hd, rfl⟩ | ⟨hv, rfl⟩
  · cases found with
    | false =>
      have HN : Hid (SizeR line (.returned (.tuple #[.int .i64 0, .iface tn pn]))) := .inr ⟨fun n hn h => (by have := (hN.out n hn h).1; contradiction), _, _, rfl⟩
      clear hd hn hN hY HW1
      go_wp2_with fail
      go_region
      all_goals
        go_wp2
        go_ret2
        exact ⟨HN.out, HB1.out.drew⟩
    | true =>
      by_cases hz : n ≤ 3000
      · have HE : Hid (SizeR line (.returned (.tuple #[.int .i64 n, .nilIface]))) := .inl ⟨n, hz, hY.out rfl n hd, rfl⟩
        have hdz : decide (0 ≤ (n : Int) ∧ (n : Int) ≤ 3000) = true := by simp; omega
        clear hd hn hN hY hz
        go_wp2_with (go_at_call 35; refine (isSize_any _ _).mono ?_; rintro e w' ⟨rfl, rfl⟩; rw [hdz])
        go_ret2
        exact ⟨HE.out, HB1.out⟩
      · have HE : Hid (SizeR line (.returned (.tuple #[.int .i64 0, .iface tn pn]))) := .inr ⟨fun k hk h => hz (by
          have e2 := (hN.out k hk h).2
          have : n = k := decB_inj (hd.trans e2.symm)
          omega), _, _, rfl⟩
        have hdz : decide (0 ≤ (n : Int) ∧ (n : Int) ≤ 3000) = false := by simp; omega
        clear hd hn hN hY hz
        go_wp2_with (go_at_call 35; refine (isSize_any _ _).mono ?_; rintro e w' ⟨rfl, rfl⟩; rw [hdz])
        go_region
        all_goals
          go_wp2
          go_ret2
          exact ⟨HE.out, HB1.out.drew⟩
  · have HN : Hid (SizeR line (.returned (.tuple #[.int .i64 0, .iface tn pn]))) := .inr ⟨fun n hn h => hv n (by omega) (hN.out n hn h).2, _, _, rfl⟩
    clear hv hN hY HW1
    cases found with
    | true =>
      go_wp2_with fail
      go_region
      all_goals
        go_wp2
        go_ret2
        exact ⟨HN.out, HB1.out.drew⟩
    | false =>
      go_wp2_with fail
      go_region
      all_goals
        go_wp2
        go_ret2
        exact ⟨HN.out, HB1.out.drew⟩
theorem readSize_any (line : ByteArray) (hs : line.size ≤ 281474976710656) (w : World) (hw : Errs w) :
    Calls Tryd.prog 49 #[.string line] w fun e w' => SizeR line e ∧ Below w.heap.size w w' := by
  have hdz : (⟨(Lib.trimPrefix line.data.toList [115, 105, 122, 101, 32]).toArray⟩ : ByteArray).size ≤ 281474976710656 := by
    have h1 := trim_len line.data.toList [115, 105, 122, 101, 32]
    have h2 : line.data.toList.length = line.size := by rw [Array.length_toList]; rfl
    show (Lib.trimPrefix line.data.toList [115, 105, 122, 101, 32]).toArray.size ≤ _
    rw [List.size_toArray]
    omega
  refine readSize_walk line ⟨(Lib.trimPrefix line.data.toList [115, 105, 122, 101, 32]).toArray⟩ (Lib.hasPrefix line.data.toList [115, 105, 122, 101, 32]) w hw (hid fun W => cutPrefix_any line ⟨#[115, 105, 122, 101, 32]⟩ W) (hid fun W h => readDecimal_any _ hdz W h) (hid fun n hn h => ?_) (hid fun hf n h => ?_)
  · obtain ⟨h1, h2⟩ := pre_of n h
    refine ⟨h1, bytes_ext ?_⟩
    show (Lib.decDigits n).toArray.toList = (Lib.trimPrefix _ _).toArray.toList
    rw [h2]
  · have h2 := pre_back hf
    have h3 := decB_data h
    rw [show (⟨(Lib.trimPrefix line.data.toList [115, 105, 122, 101, 32]).toArray⟩ : ByteArray).data.toList = Lib.trimPrefix line.data.toList [115, 105, 122, 101, 32] from rfl] at h3
    rw [h3]
    exact h2
end Go.Proofs.YtakldjpohflkmaaDoor
