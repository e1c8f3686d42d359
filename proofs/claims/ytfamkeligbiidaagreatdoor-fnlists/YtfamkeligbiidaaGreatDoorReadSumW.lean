import Derived.Test.YtfamkeligbiidaaGreatDoorShelfR
import Derived.Test.YtfamkeligbiidaaGreatDoorReadMath
import Derived.Laws.MakeOwn
/- impl.readSize: the first line. -/
namespace Go.Proofs.YtfamkeligbiidaaGreatDoor
open Go.RowKit Go.Shelf
theorem cutPrefix_any (s p : ByteArray) (w : World) :
    Calls Tryz.prog 86 #[.string s, .string p] w fun e w' => e = .returned (.tuple #[.string ⟨(Lib.trimPrefix s.data.toList p.data.toList).toArray⟩, .bool (Lib.hasPrefix s.data.toList p.data.toList)]) ∧ w' = w :=
  Any.strings_CutPrefix lays103 s p w
theorem indexByte_any (s : ByteArray) (c : Int) (w : World) : Calls Tryz.prog 88 #[.string s, .int .u8 c] w fun e w' => e = .returned (.int .i64 (Lib.indexByte s.data.toList c.toNat.toUInt8)) ∧ w' = w :=
  Any.strings_IndexByte lays137 s c w
theorem index_one (s : ByteArray) (c : UInt8) (w : World) : Calls Tryz.prog 85 #[.string s, .string ⟨#[c]⟩] w fun e w' => e = .returned (.int .i64 (Lib.indexByte s.data.toList c)) ∧ w' = w :=
  Any.stringslite_Index_one lays219 s c w
/-- The variables that reading a list reads. -/
structure Errs (w : World) : Prop where
  syn : ∃ tp p, w.cell? ⟨9, 0, none⟩ = some (.iface tp p)
  rng : ∃ tp p, w.cell? ⟨10, 0, none⟩ = some (.iface tp p)
  noEnd : ∃ tp p, w.cell? ⟨0, 0, none⟩ = some (.iface tp p)
  many : ∃ tp p, w.cell? ⟨2, 0, none⟩ = some (.iface tp p)
  size : ∃ tp p, w.cell? ⟨3, 0, none⟩ = some (.iface tp p)
  sum : ∃ tp p, w.cell? ⟨4, 0, none⟩ = some (.iface tp p)
  typ : w.cell? ⟨1, 0, none⟩ = some (.iface 118 (.agg #[.pointer (some ⟨11, 55, none⟩)]))
  tab : Lib.TabIs Tryz.prog w "internal/strconv.uint64pow10" .u64 Lib.pow10Tab
theorem cell_kept {w w' : World} (hb : Below w.heap.size w w') {a : Addr} {v : Value} (h : w.cell? a = some v) : w'.cell? a = some v :=
  (hb.cell (World.block_lt_of_cell? w a h)).trans h
theorem Errs.below {w w' : World} (h : Errs w) (hb : Below w.heap.size w w') : Errs w' where
  syn := h.syn.imp fun _ x => x.imp fun _ e => cell_kept hb e
  rng := h.rng.imp fun _ x => x.imp fun _ e => cell_kept hb e
  noEnd := h.noEnd.imp fun _ x => x.imp fun _ e => cell_kept hb e
  many := h.many.imp fun _ x => x.imp fun _ e => cell_kept hb e
  size := h.size.imp fun _ x => x.imp fun _ e => cell_kept hb e
  sum := h.sum.imp fun _ x => x.imp fun _ e => cell_kept hb e
  typ := cell_kept hb h.typ
  tab := tab_below h.tab hb
/-! What strconv.Atoi makes of a decimal -/
def valF (acc : Nat) (l : List UInt8) : Nat := l.foldl (fun v b => v * 10 + (b.toNat - 48)) acc
theorem valF_ge : ∀ (l : List UInt8) (acc : Nat), acc ≤ valF acc l
  | [], acc => Nat.le_refl _
  | b :: l, acc => by
    have := valF_ge l (acc * 10 + (b.toNat - 48))
    show acc ≤ valF (acc * 10 + (b.toNat - 48)) l
    omega
theorem parse_digits : ∀ (l : List UInt8) (acc : Nat), (∀ b ∈ l, 48 ≤ b.toNat ∧ b.toNat ≤ 57) → valF acc l < 1000000 → Lib.parseUint10 acc l = .ok (valF acc l)
  | [], acc, _, _ => rfl
  | b :: l, acc, hd, hv => by
    have hb := hd b (by simp)
    have hv' : valF (acc * 10 + (b.toNat - 48)) l < 1000000 := hv
    have hg := valF_ge l (acc * 10 + (b.toNat - 48))
    have ih := parse_digits l (acc * 10 + (b.toNat - 48)) (fun x hx => hd x (by simp [hx])) hv'
    unfold Lib.parseUint10
    rw [if_pos hb, if_neg (by omega), if_neg (by omega), ih]
    rfl
theorem atoi_dec (n : Nat) (h : n ≤ 9999) : Lib.atoiAll (Lib.decDigits n) = .ok (n : Int) := by
  have hd := dec_digits n n (Nat.le_refl _)
  have hv := (valD_dec n n (Nat.le_refl _)).1
  have hl := (dec_len4 n (by omega)).1
  have hp := parse_digits (Lib.decDigits n) 0 hd (by show valD _ < _; omega)
  have hv2 : valF 0 (Lib.decDigits n) = n := hv
  rw [hv2] at hp
  generalize Lib.decDigits n = l at *
  cases l with
  | nil => simp at hl
  | cons c r =>
    have hc := hd c (by simp)
    have e1 : ¬ (c.toNat = 43 ∨ c.toNat = 45) := by omega
    have e2 : ¬ (c.toNat = 45) := by omega
    simp only [Lib.atoiAll, Lib.parseMag, if_neg e1, reduceCtorEq, if_false, hp]
    rw [if_neg (by omega), if_neg (fun h => e2 h.1), if_neg e2]
theorem atoi_any (s : ByteArray) (hs : s.size ≤ 281474976710656) (w : World) (hw : Errs w) :
    Calls Tryz.prog 99 #[.string s] w fun e w' => ((∃ v : Int, Lib.atoiAll s.data.toList = .ok v ∧ e = .returned (.tuple #[.int .i64 v, .nilIface])) ∨ ((∀ v, Lib.atoiAll s.data.toList ≠ .ok v) ∧ ∃ (x : Int) (tp : TypeId) (p : Value), e = .returned (.tuple #[.int .i64 x, .iface tp p]))) ∧ Below w.heap.size w w' := by
  obtain ⟨t1, p1, h1⟩ := hw.syn
  obtain ⟨t2, p2, h2⟩ := hw.rng
  cases h : Lib.atoiAll s.data.toList with
  | ok v =>
    refine (Any.strconv_Atoi_ok laysC172 s (by omega) v h w).mono ?_
    rintro e w' ⟨rfl, hw'⟩
    refine ⟨.inl ⟨v, rfl, rfl⟩, ?_⟩
    rcases hw' with rfl | ⟨t, rfl⟩
    · exact Below.refl _ _
    · exact Lib.bytesWorld_below _ _ _
  | «syntax» =>
    refine (Any.strconv_Atoi_syntax laysC172 s hs h (.iface t1 p1) w h1 (.inr ⟨_, _, rfl⟩)).mono ?_
    rintro e w' ⟨N, rfl, _, _, hb⟩
    exact ⟨.inr ⟨fun v => (by simp), _, _, _, rfl⟩, hb⟩
  | range =>
    refine (Any.strconv_Atoi_range laysC172 s hs h (.iface t2 p2) w h2 (.inr ⟨_, _, rfl⟩)).mono ?_
    rintro e w' ⟨N, rfl, _, _, hb⟩
    exact ⟨.inr ⟨fun v => (by simp), _, _, _, rfl⟩, hb⟩
/-- What readSize answers. -/
def SizeR (line : ByteArray) (e : Ending) : Prop :=
  (∃ n : Nat, n ≤ 3000 ∧ [115, 105, 122, 101, 32] ++ Lib.decDigits n = line.data.toList ∧ e = .returned (.tuple #[.int .i64 n, .nilIface])) ∨ ((∀ n : Nat, n ≤ 3000 → [115, 105, 122, 101, 32] ++ Lib.decDigits n ≠ line.data.toList) ∧ ∃ (tp : TypeId) (p : Value), e = .returned (.tuple #[.int .i64 0, .iface tp p]))
theorem pre_of (n : Nat) {l : List UInt8} (h : [115, 105, 122, 101, 32] ++ Lib.decDigits n = l) : Lib.hasPrefix l [115, 105, 122, 101, 32] = true ∧ Lib.trimPrefix l [115, 105, 122, 101, 32] = Lib.decDigits n := by
  have h1 : Lib.hasPrefix l [115, 105, 122, 101, 32] = true := by
    unfold Lib.hasPrefix
    rw [List.isPrefixOf_iff_prefix, ← h]
    exact List.prefix_append _ _
  refine ⟨h1, ?_⟩
  unfold Lib.trimPrefix
  rw [h1, ← h]
  simp
theorem pre_back {l : List UInt8} (h : Lib.hasPrefix l [115, 105, 122, 101, 32] = true) : [115, 105, 122, 101, 32] ++ Lib.trimPrefix l [115, 105, 122, 101, 32] = l := by
  unfold Lib.trimPrefix
  rw [if_pos h]
  unfold Lib.hasPrefix at h
  rw [List.isPrefixOf_iff_prefix] at h
  obtain ⟨t, rfl⟩ := h
  simp
theorem trim_len (l p : List UInt8) : (Lib.trimPrefix l p).length ≤ l.length := by
  unfold Lib.trimPrefix
  split
  · rw [List.length_drop]; omega
  · exact Nat.le_refl _
/-- What Atoi answers of a text. -/
def AtoR (dg : List UInt8) (e : Ending) : Prop := (∃ v : Int, Lib.atoiAll dg = .ok v ∧ e = .returned (.tuple #[.int .i64 v, .nilIface])) ∨ ((∀ v, Lib.atoiAll dg ≠ .ok v) ∧ ∃ (x : Int) (tp : TypeId) (p : Value), e = .returned (.tuple #[.int .i64 x, .iface tp p]))
theorem atoi_le {l : List UInt8} {v : Int} (h : Lib.atoiAll l = .ok v) : v ≤ 9223372036854775807 := by
  unfold Lib.atoiAll at h
  split at h
  · cases h
  · dsimp only at h
    split at h
    · cases h
    · cases h
    · split at h
      · cases h
      · split at h
        · cases h
        · injection h with h
          split at h <;> omega
theorem itoa_big (n : Nat) (hn : n ≤ 9223372036854775807) (w : World) (htab : Lib.TabIs Tryz.prog w "internal/strconv.uint64pow10" .u64 Lib.pow10Tab) :
    Calls Tryz.prog 26 #[.int .i64 n] w fun e w' => e = .returned (.string (decB n)) ∧ Below w.heap.size w w' := by
  refine (Any.strconv_Itoa itLays (n : Int) (by omega) (by omega) w htab).mono ?_
  rintro e w' ⟨rfl, k, os, rfl⟩
  refine ⟨?_, Lib.below_grow w.heap.size w (Nat.le_refl _) k os⟩
  have : Lib.itoa (n : Int) = Lib.decDigits n := by unfold Lib.itoa; rw [if_neg (by omega)]; simp
  rw [this]; rfl
/-- What readDecimal answers. -/
def DecR (d : ByteArray) (e : Ending) : Prop :=
  (∃ n : Nat, n ≤ 9223372036854775807 ∧ decB n = d ∧ e = .returned (.tuple #[.int .i64 n, .bool true])) ∨ ((∀ n : Nat, n ≤ 9999 → decB n ≠ d) ∧ e = .returned (.tuple #[.int .i64 0, .bool false]))
set_option maxRecDepth 100000 in
set_option maxHeartbeats 1000000 in
theorem readDecimal_any (d : ByteArray) (hs : d.size ≤ 281474976710656) (w : World) (hw : Errs w) :
    Calls Tryz.prog 87 #[.string d] w fun e w' => DecR d e ∧ Below w.heap.size w w' := by
  have HW := hid hw
  have HA := hid (atoi_any d hs w hw)
  have HIT := hid fun (v : Nat) (hv : v ≤ 9223372036854775807) W (h : Errs W) => itoa_big v hv W h.tab
  have HK : Hid (∀ k : Nat, k ≤ 9999 → decB k = d → Lib.atoiAll d.data.toList = .ok (k : Int)) := fun k hk h => by
    rw [← decB_data h]; exact atoi_dec k hk
  clear hw hs
  go_enter Tryz.func87, Tryz.ntmps87
  go_wp2_with fail
  refine HA.out.mono ?_
  rintro e w1 ⟨hat, hb1⟩
  have HW1 := hid (HW.out.below hb1)
  have HB1 := hid hb1
  clear hb1 HA HW
  rcases hat with ⟨v, hv, rfl⟩ | ⟨hv, x, tp, p, rfl⟩
  · by_cases hz : 0 ≤ v
    · have hle := atoi_le hv
      obtain ⟨n, rfl⟩ := Int.eq_ofNat_of_zero_le hz
      have hn : n ≤ 9223372036854775807 := by omega
      have HI := hid (HIT.out n hn w1 HW1.out)
      have hzz : ¬ ((n : Int) < 0) := by omega
      by_cases he : (decB n).toList = d.toList
      · have he' : ((decB n).toList == d.toList) = true := by simpa using he
        have HE : Hid (DecR d (.returned (.tuple #[.int .i64 n, .bool true]))) := .inl ⟨n, hn, bytes_ext (by rwa [ByteArray.toList_eq, ByteArray.toList_eq] at he), rfl⟩
        clear he hv HIT hn HK hle hz
        generalize decB n = dn at *
        go_wp2_with (go_at_call 26; refine HI.out.mono ?_; rintro e w2 ⟨rfl, hb2⟩; have HB2 := hid (HB1.out.trans (hb2.mono HB1.out.size)); clear hb2)
        go_ret2
        exact ⟨HE.out, HB2.out⟩
      · have he' : ((decB n).toList == d.toList) = false := by simpa using he
        have HE : Hid (DecR d (.returned (.tuple #[.int .i64 0, .bool false]))) := .inr ⟨fun k hk h => by
          have e1 := HK.out k hk h
          rw [hv] at e1
          injection e1 with e1
          have : n = k := by omega
          subst this
          exact he (by rw [h]), rfl⟩
        clear he hv HIT hn HK hle hz
        generalize decB n = dn at *
        go_wp2_with (go_at_call 26; refine HI.out.mono ?_; rintro e w2 ⟨rfl, hb2⟩; have HB2 := hid (HB1.out.trans (hb2.mono HB1.out.size)); clear hb2)
        go_ret2
        exact ⟨HE.out, HB2.out⟩
    · have HE : Hid (DecR d (.returned (.tuple #[.int .i64 0, .bool false]))) := .inr ⟨fun k hk h => by
        have e1 := HK.out k hk h
        rw [hv] at e1
        injection e1 with e1
        omega, rfl⟩
      have hzz : v < 0 := by omega
      clear hv HIT HK hz
      go_wp2_with fail
      go_ret2
      exact ⟨HE.out, HB1.out⟩
  · have HE : Hid (DecR d (.returned (.tuple #[.int .i64 0, .bool false]))) := .inr ⟨fun k hk h => hv _ (HK.out k hk h), rfl⟩
    clear hv HIT HK
    go_wp2_with fail
    go_ret2
    exact ⟨HE.out, HB1.out⟩
set_option maxRecDepth 100000 in
set_option maxHeartbeats 1000000 in
theorem readSize_walk (line d : ByteArray) (found : Bool) (w : World) (hw : Errs w) (hP : Hid (∀ W, Calls Tryz.prog 86 #[.string line, .string ⟨#[115, 105, 122, 101, 32]⟩] W fun e w' => e = .returned (.tuple #[.string d, .bool found]) ∧ w' = W))
    (hA : Hid (∀ W, Errs W → Calls Tryz.prog 87 #[.string d] W fun e w' => DecR d e ∧ Below W.heap.size W w'))
    (hN : Hid (∀ n : Nat, n ≤ 3000 → [115, 105, 122, 101, 32] ++ Lib.decDigits n = line.data.toList → found = true ∧ decB n = d))
    (hY : Hid (found = true → ∀ n : Nat, decB n = d → [115, 105, 122, 101, 32] ++ Lib.decDigits n = line.data.toList)) :
    Calls Tryz.prog 75 #[.string line] w fun e w' => SizeR line e ∧ Below w.heap.size w w' := by
  have HW := hid hw
  clear hw
  go_enter Tryz.func75, Tryz.ntmps75
  go_wp2_with fail
  refine (hP.out _).mono ?_
  rintro e w' ⟨rfl, rfl⟩
  go_wp2_with fail
  refine (hA.out _ HW.out).mono ?_
  rintro e w1 ⟨hat, hb1⟩
  have HW1 := hid (HW.out.below hb1)
  have HB1 := hid hb1
  obtain ⟨tn, pn, hns⟩ := HW1.out.size
  clear hb1 hP hA HW
  rcases hat with ⟨n, hn, hd, rfl⟩ | ⟨hv, rfl⟩
  · cases found with
    | false =>
      have HN : Hid (SizeR line (.returned (.tuple #[.int .i64 0, .iface tn pn]))) := .inr ⟨fun n hn h => (by have := (hN.out n hn h).1; contradiction), _, _, rfl⟩
      clear hd hn hN hY HW1
      go_wp2_with fail
      go_region
      all_goals
        go_wp2
        go_ret2
        exact ⟨HN.out, HB1.out.drew⟩
    | true =>
      by_cases hz : n ≤ 3000
      · have HE : Hid (SizeR line (.returned (.tuple #[.int .i64 n, .nilIface]))) := .inl ⟨n, hz, hY.out rfl n hd, rfl⟩
        have hdz : decide (0 ≤ (n : Int) ∧ (n : Int) ≤ 3000) = true := by simp; omega
        clear hd hn hN hY hz
        go_wp2_with (go_at_call 55; refine (isSize_any _ _).mono ?_; rintro e w' ⟨rfl, rfl⟩; rw [hdz])
        go_ret2
        exact ⟨HE.out, HB1.out⟩
      · have HE : Hid (SizeR line (.returned (.tuple #[.int .i64 0, .iface tn pn]))) := .inr ⟨fun k hk h => hz (by
          have e2 := (hN.out k hk h).2
          have : n = k := decB_inj (hd.trans e2.symm)
          omega), _, _, rfl⟩
        have hdz : decide (0 ≤ (n : Int) ∧ (n : Int) ≤ 3000) = false := by simp; omega
        clear hd hn hN hY hz
        go_wp2_with (go_at_call 55; refine (isSize_any _ _).mono ?_; rintro e w' ⟨rfl, rfl⟩; rw [hdz])
        go_region
        all_goals
          go_wp2
          go_ret2
          exact ⟨HE.out, HB1.out.drew⟩
  · have HN : Hid (SizeR line (.returned (.tuple #[.int .i64 0, .iface tn pn]))) := .inr ⟨fun n hn h => hv n (by omega) (hN.out n hn h).2, _, _, rfl⟩
    clear hv hN hY HW1
    cases found with
    | true =>
      go_wp2_with fail
      go_region
      all_goals
        go_wp2
        go_ret2
        exact ⟨HN.out, HB1.out.drew⟩
    | false =>
      go_wp2_with fail
      go_region
      all_goals
        go_wp2
        go_ret2
        exact ⟨HN.out, HB1.out.drew⟩
theorem readSize_any (line : ByteArray) (hs : line.size ≤ 281474976710656) (w : World) (hw : Errs w) :
    Calls Tryz.prog 75 #[.string line] w fun e w' => SizeR line e ∧ Below w.heap.size w w' := by
  have hdz : (⟨(Lib.trimPrefix line.data.toList [115, 105, 122, 101, 32]).toArray⟩ : ByteArray).size ≤ 281474976710656 := by
    have h1 := trim_len line.data.toList [115, 105, 122, 101, 32]
    have h2 : line.data.toList.length = line.size := by rw [Array.length_toList]; rfl
    show (Lib.trimPrefix line.data.toList [115, 105, 122, 101, 32]).toArray.size ≤ _
    rw [List.size_toArray]
    omega
  refine readSize_walk line ⟨(Lib.trimPrefix line.data.toList [115, 105, 122, 101, 32]).toArray⟩ (Lib.hasPrefix line.data.toList [115, 105, 122, 101, 32]) w hw (hid fun W => cutPrefix_any line ⟨#[115, 105, 122, 101, 32]⟩ W) (hid fun W h => readDecimal_any _ hdz W h) (hid fun n hn h => ?_) (hid fun hf n h => ?_)
  · obtain ⟨h1, h2⟩ := pre_of n h
    refine ⟨h1, bytes_ext ?_⟩
    show (Lib.decDigits n).toArray.toList = (Lib.trimPrefix _ _).toArray.toList
    rw [h2]
  · have h2 := pre_back hf
    have h3 := decB_data h
    rw [show (⟨(Lib.trimPrefix line.data.toList [115, 105, 122, 101, 32]).toArray⟩ : ByteArray).data.toList = Lib.trimPrefix line.data.toList [115, 105, 122, 101, 32] from rfl] at h3
    rw [h3]
    exact h2
end Go.Proofs.YtfamkeligbiidaaGreatDoor
/- impl.readSum: a line of digits. -/
namespace Go.Proofs.YtfamkeligbiidaaGreatDoor
open Go.RowKit Go.Shelf
/-- The value of a digit, below 0 if it is none. -/
def dv (c : UInt8) : Int := Lib.indexByte [48, 49, 50, 51, 52, 53, 54, 55, 56, 57, 97, 98, 99, 100, 101, 102] c
set_option maxRecDepth 100000 in
theorem dv_all : ∀ n : Fin 256, dv (UInt8.ofNat n.val) = -1 ∨ (0 ≤ dv (UInt8.ofNat n.val) ∧ dv (UInt8.ofNat n.val) < 16 ∧ hx (dv (UInt8.ofNat n.val)).toNat = UInt8.ofNat n.val) := by decide
theorem dv_hx : ∀ j : Fin 16, dv (hx j.val) = (j.val : Int) := by decide
theorem dv_of (c : UInt8) : dv c = -1 ∨ (0 ≤ dv c ∧ dv c < 16 ∧ hx (dv c).toNat = c) := by
  have h := dv_all ⟨c.toNat, c.toNat_lt⟩
  have e : UInt8.ofNat c.toNat = c := UInt8.toNat_inj.1 (by rw [UInt8.toNat_ofNat']; have := c.toNat_lt; omega)
  simpa only [e] using h
theorem hexL_dv (l : List UInt8) : ∀ b ∈ hexL l, 0 ≤ dv b := by
  intro b hb
  unfold hexL at hb
  obtain ⟨c, _, hc⟩ := List.mem_flatMap.1 hb
  have hc256 := c.toNat_lt
  simp only [List.mem_cons, List.not_mem_nil, or_false] at hc
  rcases hc with rfl | rfl
  · rw [dv_hx ⟨c.toNat / 16, by omega⟩]; exact Int.natCast_nonneg _
  · rw [dv_hx ⟨c.toNat % 16, by omega⟩]; exact Int.natCast_nonneg _
def nib (l : List UInt8) (j : Nat) : Nat := (dv (l.getD j 0)).toNat
/-- A byte when i digits have been read. -/
def bst (l : List UInt8) (i k : Nat) : Nat := if 2 * k + 1 < i then 16 * nib l (2 * k) + nib l (2 * k + 1) else if 2 * k < i then nib l (2 * k) else 0
def rowS (l : List UInt8) (m i : Nat) : List Value := (List.range m).map fun k => .int .u8 ((bst l i k : Nat) : Int)
theorem nib_lt (l : List UInt8) (j : Nat) : nib l j < 16 := by
  unfold nib
  rcases dv_of (l.getD j 0) with h | ⟨h1, h2, _⟩
  · rw [h]; decide
  · omega
theorem bst_old (l : List UInt8) (i : Nat) : bst l i (i / 2) < 16 := by
  unfold bst
  rw [if_neg (by omega)]
  split
  · exact nib_lt _ _
  · omega
theorem bst_new (l : List UInt8) (i : Nat) : bst l (i + 1) (i / 2) = 16 * bst l i (i / 2) + nib l i := by
  rcases Nat.mod_two_eq_zero_or_one i with h | h
  · have e : 2 * (i / 2) = i := by omega
    unfold bst
    rw [if_neg (by omega), if_pos (by omega), if_neg (by omega), if_neg (by omega), e]
    omega
  · have e : 2 * (i / 2) + 1 = i := by omega
    unfold bst
    rw [if_pos (by omega), if_neg (by omega), if_pos (by omega), e]
theorem bst_other (l : List UInt8) (i k : Nat) (h : k ≠ i / 2) : bst l (i + 1) k = bst l i k := by
  unfold bst
  by_cases h1 : 2 * k + 1 < i
  · rw [if_pos h1, if_pos (by omega)]
  · rw [if_neg h1, if_neg (by omega)]
    by_cases h2 : 2 * k < i
    · rw [if_pos h2, if_pos (by omega)]
    · rw [if_neg h2, if_neg (by omega)]
theorem rowS_len (l : List UInt8) (m i : Nat) : (rowS l m i).length = m := by simp [rowS]
theorem rowS_get (l : List UInt8) (m i k : Nat) (h : k < m) : (rowS l m i)[k]? = some (.int .u8 ((bst l i k : Nat) : Int)) := by
  simp [rowS, h]
theorem rowS_set (l : List UInt8) (m i : Nat) : (rowS l m i).set (i / 2) (.int .u8 ((bst l (i + 1) (i / 2) : Nat) : Int)) = rowS l m (i + 1) := by
  apply List.ext_getElem?
  intro k
  by_cases hk : k < m
  · rw [rowS_get l m (i + 1) k hk]
    by_cases e : i / 2 = k
    · subst e
      rw [List.getElem?_set_self (by rw [rowS_len]; exact hk)]
    · rw [List.getElem?_set_ne e, rowS_get l m i k hk, bst_other l i k (fun h => e h.symm)]
  · rw [List.getElem?_eq_none (by rw [List.length_set, rowS_len]; omega), List.getElem?_eq_none (by rw [rowS_len]; omega)]
theorem rowS_zero (l : List UInt8) (m : Nat) : rowS l m 0 = List.replicate m (.int .u8 0) := by
  apply List.ext_getElem?
  intro k
  by_cases hk : k < m
  · rw [rowS_get l m 0 k hk]
    have : bst l 0 k = 0 := by unfold bst; rw [if_neg (by omega), if_neg (by omega)]
    rw [this]
    simp [hk]
  · rw [List.getElem?_eq_none (by rw [rowS_len]; omega), List.getElem?_eq_none (by simp; omega)]
/-- The bytes that digits say. -/
def dig8 (l : List UInt8) (m : Nat) : List UInt8 := (List.range m).map fun k => UInt8.ofNat (16 * nib l (2 * k) + nib l (2 * k + 1))
theorem hx_nib {c : UInt8} (h : 0 ≤ dv c) : hx (dv c).toNat = c := by
  rcases dv_of c with h1 | ⟨_, _, h3⟩
  · omega
  · exact h3
theorem hexL_dig8 : ∀ (m : Nat) (l : List UInt8), l.length = 2 * m → (∀ b ∈ l, 0 ≤ dv b) → hexL (dig8 l m) = l
  | 0, [], _, _ => rfl
  | 0, a :: l, h, _ => by simp at h
  | m + 1, [], h, _ => by simp at h
  | m + 1, [a], h, _ => by simp at h; omega
  | m + 1, a :: b :: l, h, hd => by
    have ih := hexL_dig8 m l (by simp at h; omega) (fun x hx => hd x (by simp [hx]))
    have e : dig8 (a :: b :: l) (m + 1) = UInt8.ofNat (16 * nib (a :: b :: l) 0 + nib (a :: b :: l) 1) :: dig8 l m := by
      unfold dig8
      rw [List.range_succ_eq_map, List.map_cons, List.map_map]
      congr 1
    have e2 : ∀ (x : UInt8) (t : List UInt8), hexL (x :: t) = hx (x.toNat / 16) :: hx (x.toNat % 16) :: hexL t := fun x t => by simp [hexL]
    have n0 : nib (a :: b :: l) 0 = (dv a).toNat := rfl
    have n1 : nib (a :: b :: l) 1 = (dv b).toNat := rfl
    have l0 := nib_lt (a :: b :: l) 0
    have l1 := nib_lt (a :: b :: l) 1
    have e3 : (UInt8.ofNat (16 * nib (a :: b :: l) 0 + nib (a :: b :: l) 1)).toNat = 16 * nib (a :: b :: l) 0 + nib (a :: b :: l) 1 := by
      rw [UInt8.toNat_ofNat']; omega
    rw [e, e2, ih, e3, show (16 * nib (a :: b :: l) 0 + nib (a :: b :: l) 1) / 16 = nib (a :: b :: l) 0 by omega, show (16 * nib (a :: b :: l) 0 + nib (a :: b :: l) 1) % 16 = nib (a :: b :: l) 1 by omega, n0, n1, hx_nib (hd a (by simp)), hx_nib (hd b (by simp))]
theorem rowS_end (l : List UInt8) (m : Nat) : rowS l m (2 * m) = Lib.byteCells (dig8 l m) := by
  unfold rowS dig8 Lib.byteCells
  rw [List.map_map]
  apply List.map_congr_left
  intro k hk
  have hk' : k < m := by simpa using hk
  have l0 := nib_lt l (2 * k)
  have l1 := nib_lt l (2 * k + 1)
  have e : bst l (2 * m) k = 16 * nib l (2 * k) + nib l (2 * k + 1) := by unfold bst; rw [if_pos (by omega)]
  rw [e]
  show Value.int .u8 _ = Value.int .u8 ((UInt8.ofNat (16 * nib l (2 * k) + nib l (2 * k + 1))).toNat : Int)
  rw [UInt8.toNat_ofNat', Nat.mod_eq_of_lt (by omega)]
/-- What readSum answers. -/
def SumR (line : ByteArray) (m : Int) (e : Ending) : Prop :=
  (∃ p : ByteArray, (p.size : Int) = m ∧ hexL p.data.toList = line.data.toList ∧ e = .returned (.tuple #[.string p, .nilIface])) ∨ ((∀ p : ByteArray, (p.size : Int) = m → hexL p.data.toList ≠ line.data.toList) ∧ ∃ (tp : TypeId) (q : Value), e = .returned (.tuple #[.string ⟨#[]⟩, .iface tp q]))
theorem noSum_len {line : ByteArray} {m : Nat} (h : line.size ≠ 2 * m) : ∀ p : ByteArray, (p.size : Int) = m → hexL p.data.toList ≠ line.data.toList := fun p hp e => by
  have := congrArg List.length e
  rw [hexL_len, Array.length_toList, Array.length_toList] at this
  have e1 : p.data.size = p.size := rfl
  have e2 : line.data.size = line.size := rfl
  omega
theorem noSum_digit {line : ByteArray} {m : Int} (i : Nat) (hi : i < line.size) (h : dv (line[i]'hi) < 0) : ∀ p : ByteArray, (p.size : Int) = m → hexL p.data.toList ≠ line.data.toList := fun p _ e => by
  have hk : i < line.data.toList.length := by rw [Array.length_toList]; exact hi
  have := hexL_dv p.data.toList (line[i]'hi) (by rw [e]; exact List.getElem_mem hk)
  omega
theorem or_nib (a v : Nat) (ha : a < 16) (hv : v < 16) : (16 * a) ||| v = 16 * a + v := by
  have key : ∀ a : Fin 16, ∀ v : Fin 16, (16 * a.val) ||| v.val = 16 * a.val + v.val := by decide
  exact key ⟨a, ha⟩ ⟨v, hv⟩
end Go.Proofs.YtfamkeligbiidaaGreatDoor
/- impl.readSum, walked. -/
namespace Go.Proofs.YtfamkeligbiidaaGreatDoor
open Go.RowKit Go.Shelf
theorem or_bits : ∀ a : Fin 16, ∀ v : Fin 16, bits BinOp.or IntKind.u8 ((a.val : Int) * 16) (v.val : Int) = ((16 * a.val + v.val : Nat) : Int) := by decide
set_option maxRecDepth 100000 in
set_option maxHeartbeats 1000000 in
theorem readSum_any (line : ByteArray) (m : Nat) (hm : 1 ≤ m ∧ m ≤ 8) (hs : line.size ≤ 281474976710656) (w : World) (hw : Errs w) :
    Calls Tryz.prog 76 #[.string line, .int .i64 (m : Int)] w fun e w' => SumR line m e ∧ Below w.heap.size w w' := by
  obtain ⟨tn, pn, hns⟩ := hw.sum
  have hnl : 4 < w.heap.size := World.block_lt_of_cell? w ⟨4, 0, none⟩ hns
  clear hw
  obtain ⟨i0, hi, hz0, hz1, hz2⟩ := info_parts Tryz.infoByte
  by_cases h2 : line.size = 2 * m
  · have h2' : (line.size : Int) = 2 * (m : Int) := by omega
    obtain ⟨M, hM⟩ : ∃ M, M = madeCells (Value.int .u8 0).cells (((m : Nat) : Int).toNat * i0.size) := ⟨_, rfl⟩
    have hMs : M.size = m := by rw [hM, size_madeCells, hz1]; simp
    have hMv : ∀ j, j < m → M[j]? = some (.int .u8 0) := fun j hj => by
      rw [hM, hz1]; simp [madeCells, Value.cells, hj, Nat.mod_one]
    have hmk : ∀ W : World, (Instr.makeSlice 22 (.int .i64 (m : Int)) (.int .i64 (m : Int))).run Tryz.prog W = .ok (.slice (some ⟨W.heap.size, 0, none⟩) m m) (W.alloc (.cells M 5)) := fun W => by
      have h := run_make (P := Tryz.prog) W 22 5 i0 (.int .u8 0) Tryz.underlying22 hi hz0 .i64 .i64 (m : Int) (m : Int) (by omega) (by omega) (by rw [hz2]; omega) (by omega)
      rw [← hM] at h
      simpa using h
    have hMl : M.toList = rowS line.data.toList m 0 := by
      rw [rowS_zero]
      apply List.ext_getElem?
      intro k
      by_cases hk : k < m
      · have := hMv k hk
        rw [Array.getElem?_toList, this]
        simp [hk]
      · rw [List.getElem?_eq_none (by rw [Array.length_toList]; omega), List.getElem?_eq_none (by simp; omega)]
    have ho : (w.alloc (.cells M 5)).ownsRow w.heap.size 5 1 (.slice (some ⟨w.heap.size, 0, none⟩) m m) m (rowS line.data.toList m 0) := by
      have := World.ownsRow_lit (base := w.heap.size) (e := 5) (size := 1) w M m (Nat.le_refl _) (by unfold maxLen; omega) (by omega)
      rw [hMl] at this
      simpa using this
    have HO := hid ho
    have hm1 : (2 : Int) * (m : Int) ≤ 16 := by omega
    have hm0 : (0 : Int) ≤ (m : Int) := by omega
    clear ho hM hMv hMl hMs
    go_enter Tryz.func76, Tryz.ntmps76
    go_wp2
    go_loopw [19] (fun i' wr => ∃ i : Nat, i ≤ 2 * m ∧ i' = .int .i64 i ∧ (∀ b ∈ line.data.toList.take i, 0 ≤ dv b) ∧ wr.ownsRow w.heap.size 5 1 (.slice (some ⟨w.heap.size, 0, none⟩) m m) m (rowS line.data.toList m i) ∧ Below w.heap.size w wr) (fun i' _ => 2 * m - (intOf i').toNat)
    case atStart => exact ⟨0, Nat.zero_le _, rfl, by simp, HO.out, (Below.refl _ _).alloc (Nat.le_refl _) _⟩
    case round =>
      obtain ⟨i, hil, rfl, hall, hr, hb⟩ := hrel
      by_cases hlt : i < 2 * m
      · have hsz : i < line.size := by omega
        have hi0 : (0 : Int) ≤ (i : Int) := by omega
        have hi1 : (i : Int) < (line.size : Int) := by omega
        have hi2 : (i : Int) < 2 * (m : Int) := by omega
        have hlen : i < line.data.toList.length := by rw [Array.length_toList]; exact hsz
        have hgd : line.data.toList.getD i 0 = line[i] := getD_at line i hsz
        have hdv := dv_of (line[i]'hsz)
        have HIX := hid fun W => indexByte_any ⟨#[48, 49, 50, 51, 52, 53, 54, 55, 56, 57, 97, 98, 99, 100, 101, 102]⟩ ((line[i]'hsz).toNat : Int) W
        have e8 : ((line[i]'hsz).toNat : Int).toNat.toUInt8 = line[i]'hsz := UInt8.toNat_inj.1 (by rw [Int.toNat_natCast]; show (UInt8.ofNat _).toNat = _; rw [UInt8.toNat_ofNat']; have := (line[i]'hsz).toNat_lt; omega)
        rw [e8] at HIX
        change Hid (∀ W, Calls Tryz.prog 88 #[.string ⟨#[48, 49, 50, 51, 52, 53, 54, 55, 56, 57, 97, 98, 99, 100, 101, 102]⟩, .int .u8 ((line[i]'hsz).toNat : Int)] W fun e w' => e = .returned (.int .i64 (dv (line[i]'hsz))) ∧ w' = W) at HIX
        have hcs := hb.cell (p := ⟨4, 0, none⟩) hnl
        rw [hns] at hcs
        have HB := hid hb
        rcases hdv with hd | ⟨hd0, hd16, _⟩
        · have HN : Hid (SumR line m (.returned (.tuple #[.string ⟨#[]⟩, .iface tn pn]))) := .inr ⟨noSum_digit i hsz (by omega), _, _, rfl⟩
          rw [hd] at HIX
          clear hall hr hb hgd HO e8
          go_wp2_with (go_at_call 88; refine (HIX.out _).mono ?_; rintro e w' ⟨rfl, rfl⟩)
          go_region
          all_goals
            go_wp2
            go_ret2
            exact ⟨HN.out, HB.out.drew⟩
        · obtain ⟨v, hv⟩ := Int.eq_ofNat_of_zero_le hd0
          have hv16 : v < 16 := by omega
          have hnib : nib line.data.toList i = v := by unfold nib; rw [hgd, hv]; simp
          have HALL : Hid (∀ b ∈ line.data.toList.take (i + 1), 0 ≤ dv b) := fun b hb => by
            rw [List.take_succ_eq_append_getElem hlen] at hb
            rcases List.mem_append.1 hb with hb | hb
            · exact hall b hb
            · simp only [List.mem_cons, List.not_mem_nil, or_false] at hb
              rw [hb]
              show 0 ≤ dv (line[i]'hsz)
              omega
          have hold := bst_old line.data.toList i
          have hnew := bst_new line.data.toList i
          have hset := rowS_set line.data.toList m i
          rw [hnib] at hnew
          rw [hnew] at hset
          have hq : i / 2 < m := by omega
          have hcell := (hr.cellAt (i / 2) (by omega)).trans (rowS_get line.data.toList m i (i / 2) hq)
          have hfz := hr.frozenAt (i / 2)
          have HST := hid fun x => (hr.stored (i / 2) x).1
          have HSET := hid hset
          rw [hv] at HIX
          generalize bst line.data.toList i (i / 2) = a at *
          obtain ⟨q, hqe⟩ : ∃ q : Nat, q = i / 2 := ⟨_, rfl⟩
          rw [← hqe] at hq hcell hfz HST HSET
          have hq1 : Int.tdiv (i : Int) 2 = (q : Int) := by rw [Int.tdiv_eq_ediv_of_nonneg (by omega)]; omega
          have hq2 : (i : Int) / 2 = (q : Int) := by omega
          have hq3 : (q : Int) < (m : Int) := by omega
          clear hall hr hb hgd HO e8 hnew hset hqe hnib
          go_wp2_with (go_at_call 88; refine (HIX.out _).mono ?_; rintro e w' ⟨rfl, rfl⟩)
          have hor : bits BinOp.or IntKind.u8 ((a : Int) * 16) (v : Int) = ((16 * a + v : Nat) : Int) := or_bits ⟨a, hold⟩ ⟨v, hv16⟩
          rw [hor]
          refine ⟨⟨i + 1, by omega, by go_num, HALL.out, ?_, HB.out.setCell (p := ⟨w.heap.size, q, none⟩) (Nat.le_refl _) _⟩, by simp [intOf]; omega⟩
          have hst := HST.out (.int .u8 ((16 * a + v : Nat) : Int))
          rw [HSET.out] at hst
          exact hst
      · obtain rfl : i = 2 * m := by omega
        rw [rowS_end] at hr
        have hcv := conv_bytes hr
        have hlt' : ¬ (((2 * m : Nat) : Int) < 2 * (m : Int)) := by omega
        have hlen : line.data.toList.length = 2 * m := by rw [Array.length_toList]; exact h2
        have HE : Hid (SumR line m (.returned (.tuple #[.string ⟨(dig8 line.data.toList m).toArray⟩, .nilIface]))) := by
          refine .inl ⟨_, ?_, ?_, rfl⟩
          · show ((dig8 line.data.toList m).toArray.size : Int) = m
            rw [List.size_toArray]; simp [dig8]
          · refine hexL_dig8 m line.data.toList hlen (fun b hb => hall b ?_)
            rwa [List.take_of_length_le (by omega)]
        have HB := hid hb
        clear hall hr hb HO hlt
        generalize dig8 line.data.toList m = dd at *
        go_wp2
        go_ret2
        exact ⟨HE.out, HB.out⟩
  · have HN : Hid (SumR line m (.returned (.tuple #[.string ⟨#[]⟩, .iface tn pn]))) := .inr ⟨noSum_len h2, _, _, rfl⟩
    have h2' : ¬ ((line.size : Int) = 2 * (m : Int)) := by omega
    have hm1 : (2 : Int) * (m : Int) ≤ 16 := by omega
    go_enter Tryz.func76, Tryz.ntmps76
    go_wp2_with fail
    go_region
    all_goals
      go_wp2
      go_ret2
      exact ⟨HN.out, (Below.refl _ _).drew⟩
end Go.Proofs.YtfamkeligbiidaaGreatDoor
