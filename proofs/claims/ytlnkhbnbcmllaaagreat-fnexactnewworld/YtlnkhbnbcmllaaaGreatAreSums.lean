import Derived.Shelf.Slices.Clone
import Derived.Test.YtlnkhbnbcmllaaaGreatStoreSpec
import Derived.Maps.OwnSet
import Derived.Test.YtlnkhbnbcmllaaaGreatOrder
import Derived.Test.YtlnkhbnbcmllaaaGreatShort
import Derived.Shelf.Pu.Clone
import Derived.Test.YtlnkhbnbcmllaaaGreatRows
import Derived.Test.YtlnkhbnbcmllaaaGreatRingA
/- What impl.openStore calls: isBlob, isTime, slices.Clone; items as elements of a map. -/
namespace Go.Proofs.YtlnkhbnbcmllaaaGreat
open Go.RowKit Go.Shelf
set_option maxRecDepth 100000 in
set_option maxHeartbeats 400000 in
theorem isBlob_any (t : ByteArray) (w : World) (ht : t.size ≤ maxLen) : Calls Tryz.prog 82 #[.string t] w fun e w' => e = .returned (.bool (decide (1 ≤ t.size ∧ t.size ≤ 7000))) ∧ w' = w := by
  unfold maxLen at ht
  by_cases h1 : 1 ≤ t.size
  · by_cases h2 : t.size ≤ 7000
    · rw [decide_eq_true ⟨h1, h2⟩]
      go_enter Tryz.func82, Tryz.ntmps82
      go_wp2
      go_ret
      exact ⟨by simp; omega, rfl⟩
    · rw [decide_eq_false (fun h => h2 h.2)]
      go_enter Tryz.func82, Tryz.ntmps82
      go_wp2
      go_ret
      exact ⟨by simp; omega, rfl⟩
  · rw [decide_eq_false (fun h => h1 h.1)]
    have h0 : t.size = 0 := by omega
    go_enter Tryz.func82, Tryz.ntmps82
    go_wp2
    go_ret
    exact ⟨by simp, rfl⟩
set_option maxRecDepth 100000 in
set_option maxHeartbeats 400000 in
theorem isTime_any (u : Int) (w : World) : Calls Tryz.prog 74 #[.int .i64 u] w fun e w' => e = .returned (.bool (decide (0 ≤ u ∧ u ≤ 1000000))) ∧ w' = w := by
  by_cases h1 : 0 ≤ u
  · by_cases h2 : u ≤ 1000000
    · rw [decide_eq_true ⟨h1, h2⟩]
      go_enter Tryz.func74, Tryz.ntmps74
      go_wp2
      go_ret
      exact ⟨by simp, rfl⟩
    · rw [decide_eq_false (fun h => h2 h.2)]
      go_enter Tryz.func74, Tryz.ntmps74
      go_wp2
      go_ret
      exact ⟨by simp, rfl⟩
  · rw [decide_eq_false (fun h => h1 h.1)]
    go_enter Tryz.func74, Tryz.ntmps74
    go_wp2
    go_ret
    exact ⟨by simp, rfl⟩
def cRen : Ren := { f := fun n => if n = 16 then 81 else n, t := fun n => if n = 24 then 23 else n, g := fun n => n }
theorem cLays : Lays2.n16 Tryz.prog cRen where
  mixed := by kernel_rfl
  f16 := by kernel_rfl
  t4 := by kernel_rfl
  a4 := fun _ => by kernel_rfl
  z4 := fun _ => by kernel_rfl
  v4 := fun _ => by kernel_rfl
  t9 := by kernel_rfl
  a9 := fun _ => by kernel_rfl
  z9 := fun _ => by kernel_rfl
  v9 := fun _ => by kernel_rfl
  t24 := by kernel_rfl
  a24 := fun _ => by kernel_rfl
  z24 := fun _ => by kernel_rfl
  v24 := fun _ => by kernel_rfl
  i9 := by kernel_rfl
theorem cloneRow_any (v : Value) (ts : List ByteArray) (w : World) (hv : Reads w v ts) (hl : ts.length ≤ 1048576) :
    Calls Tryz.prog 81 #[v] w fun e w' => ∃ v', e = .returned v' ∧ w'.ownsRow w.heap.size 9 1 v' ts.length (ts.map Value.string) ∧ Below w.heap.size w w' := by
  rcases hv with ⟨rfl, a, cap, rfl⟩ | ⟨b, off, cap, rfl, hb, hc⟩
  · cases a with
    | none =>
      refine (Any.slices_Clone_string_nil cLays 0 cap w).mono ?_
      rintro e w' ⟨rfl, rfl⟩
      exact ⟨_, rfl, World.ownsRow_nil _ _ _ _, Below.refl _ _⟩
    | some a =>
      refine (Any.slices_Clone_string_zero cLays a cap w).mono ?_
      rintro e w' ⟨v', rfl, h1, _, h2⟩
      exact ⟨_, rfl, h1, h2⟩
  · refine (Any.slices_Clone_string cLays b off ts.length cap ts w (Nat.le_refl _) (by omega) hc).mono ?_
    rintro e w' ⟨v', rfl, h1, _, h2⟩
    rw [List.take_length] at h1
    exact ⟨_, rfl, h1, h2⟩
/-- How an item reads as an element of a map. -/
def itemElem (v : Value) : Option (DataW Unit × List MemPlace) :=
  match v with
  | .agg cs => (match cs.toList with
    | [.string t, .int .i64 u] => some (.agg [.lit (.string t.data.toList), .lit (.int .i64 u)], [])
    | _ => none)
  | _ => none
theorem itemElem_mk (t : ByteArray) (u : Int) : itemElem (.agg #[.string t, .int .i64 u]) = some (.agg [.lit (.string t.data.toList), .lit (.int .i64 u)], []) := rfl
/-- The map of the first items. -/
def mapI (n : Int) (its : Itms) : Nat → DataW Unit
  | 0 => .map []
  | k + 1 => (mapI n its k).put (.string (sumX n (itx its k)).data.toList) (.agg [.lit (.string (itx its k).data.toList), .lit (.int .i64 (itu its k))])
theorem makeItems (n : Nat) (w : World) : (Instr.makeMap 107 (some (.int .i64 (n : Int)))).run Tryz.prog w = .ok (.map (some w.heap.size)) (w.alloc (.map #[] 0)) := by
  simp [Instr.makeMap, go_sem]
theorem sumX_size (n : Int) (p : ByteArray) : (sumX n p).size ≤ 8 := by
  show (sumOf p.data.toList n).toArray.size ≤ 8
  rw [List.size_toArray]; exact sumOf_len _ _
theorem keyed9 : Maps.Keyed Tryz.prog 9 := Maps.string_keyed Tryz.underlying9
theorem key9 (s : ByteArray) (h : s.size ≤ maxLen) : keyOf Tryz.prog 9 (.string s) = some (.string s.data.toList) := WideMaps.keyOf_string_mk Tryz.underlying9 h
end Go.Proofs.YtlnkhbnbcmllaaaGreat
/- spec.l6Set: whether a list is a set. -/
namespace Go.Proofs.YtlnkhbnbcmllaaaGreat
open Go.RowKit
end Go.Proofs.YtlnkhbnbcmllaaaGreat
/- strings.Clone hands back the same bytes. -/
namespace Go.Proofs.YtlnkhbnbcmllaaaGreat
open Go.RowKit Go.Shelf
def clRen : Ren := { f := fun n => if n = 25 then 87 else n, t := fun n => if n = 37 then 135 else if n = 47 then 141 else n, g := fun n => n }
theorem clLays : LaysPu.n25 Tryz.prog clRen where
  mixed := by kernel_rfl
  f25 := by kernel_rfl
  t0 := by kernel_rfl
  a0 := fun _ => by kernel_rfl
  z0 := fun _ => by kernel_rfl
  v0 := fun _ => by kernel_rfl
  i0 := by kernel_rfl
  t3 := by kernel_rfl
  a3 := fun _ => by kernel_rfl
  z3 := fun _ => by kernel_rfl
  v3 := fun _ => by kernel_rfl
  i3 := by kernel_rfl
  t4 := by kernel_rfl
  a4 := fun _ => by kernel_rfl
  z4 := fun _ => by kernel_rfl
  v4 := fun _ => by kernel_rfl
  i4 := by kernel_rfl
  t5 := by kernel_rfl
  a5 := fun _ => by kernel_rfl
  z5 := fun _ => by kernel_rfl
  v5 := fun _ => by kernel_rfl
  i5 := by kernel_rfl
  t9 := by kernel_rfl
  a9 := fun _ => by kernel_rfl
  z9 := fun _ => by kernel_rfl
  v9 := fun _ => by kernel_rfl
  i9 := by kernel_rfl
  t37 := by kernel_rfl
  a37 := fun _ => by kernel_rfl
  z37 := fun _ => by kernel_rfl
  v37 := fun _ => by kernel_rfl
  i37 := by kernel_rfl
  t47 := by kernel_rfl
  a47 := fun _ => by kernel_rfl
  z47 := fun _ => by kernel_rfl
  v47 := fun _ => by kernel_rfl
  i47 := by kernel_rfl
theorem clone_any (s : ByteArray) (w : World) (h : s.size ≤ 281474976710656) :
    Calls Tryz.prog 87 #[.string s] w fun e w' => e = .returned (.string s) ∧ Below w.heap.size w w' :=
  AnyPu.stringslite_Clone clLays s w h
set_option maxRecDepth 100000 in
set_option maxHeartbeats 400000 in
theorem stringsClone_any (s : ByteArray) (w : World) (h : s.size ≤ 281474976710656) :
    Calls Tryz.prog 59 #[.string s] w fun e w' => e = .returned (.string s) ∧ Below w.heap.size w w' := by
  go_enter Tryz.func59, Tryz.ntmps59
  go_wp2_with (go_at_call 87; refine (clone_any s _ h).mono ?_; rintro e w' ⟨rfl, hb⟩)
  go_ret
  exact ⟨rfl, hb⟩
end Go.Proofs.YtlnkhbnbcmllaaaGreat
/- impl.areSums, impl.isSet, impl.cloneTexts. -/
namespace Go.Proofs.YtlnkhbnbcmllaaaGreat
open Go.RowKit
def lastOf (ts : List ByteArray) (k : Nat) : ByteArray := if k = 0 then ⟨#[]⟩ else tv ts (k - 1)
theorem okAt_iff {n : Int} {ts : List ByteArray} {k : Nat} (hn : 1 ≤ n) : okAt n ts k ↔ ((tv ts k).size : Int) = n ∧ tlt (lastOf ts k) (tv ts k) = true := by
  unfold okAt lastOf
  cases k with
  | zero =>
    refine ⟨fun h => ⟨h.1, ?_⟩, fun h => ⟨h.1, fun h0 => absurd h0 (by omega)⟩⟩
    have h1 := h.1
    rw [if_pos rfl]
    unfold tlt
    rw [ByteArray.toList_eq, ByteArray.toList_eq]
    generalize tv ts 0 = x at *
    have hs : x.data.toList.length = x.size := by rw [Array.length_toList]; rfl
    cases hx : x.data.toList with
    | nil => rw [hx] at hs; simp at hs; omega
    | cons a l => rfl
  | succ k => simp
set_option maxRecDepth 100000 in
set_option maxHeartbeats 1000000 in
theorem areSums_any (v : Value) (ts : List ByteArray) (n : Int) (w : World) (hv : Reads w v ts) (hl : ts.length ≤ maxLen) (hsz : ∀ i, (tv ts i).size ≤ maxLen) (hn : 1 ≤ n) :
    Calls Tryz.prog 80 #[v, .int .i64 n] w fun e w' => ∃ b, e = .returned (.bool b) ∧ (b = true ↔ okSums n ts) ∧ w' = w := by
  unfold maxLen at hl
  obtain ⟨a, ca, rfl, hca⟩ := hv.form
  have HC : Hid (∀ i, i < ts.length → ∃ b off, a = some ⟨b, off, none⟩ ∧ b < w.heap.size ∧ w.cell? ⟨b, off + i, none⟩ = some (.string (tv ts i))) := hca
  have HSZ := hid hsz
  have HI : Hid (∀ k, okAt n ts k ↔ ((tv ts k).size : Int) = n ∧ tlt (lastOf ts k) (tv ts k) = true) := fun k => okAt_iff hn
  have HQ : Hid (∀ k, lastOf ts (k + 1) = tv ts k) := fun k => by simp [lastOf]
  clear hca hv hsz
  go_enter Tryz.func80, Tryz.ntmps80
  go_wp2
  go_loop [5, 10] (fun l i => ∃ k : Nat, k ≤ ts.length ∧ i = .int .i64 k ∧ l = .string (lastOf ts k) ∧ (∀ j, j < k → okAt n ts j)) (fun _ i => ts.length - (intOf i).toNat)
  case atStart => exact ⟨0, Nat.zero_le _, rfl, rfl, fun j hj => absurd hj (by omega)⟩
  case round =>
    obtain ⟨k, hk, rfl, rfl, hok⟩ := hrel
    have HOK := hid hok
    clear hok
    by_cases hlt : k < ts.length
    · obtain ⟨b1, o1, rfl, hb1, hc1⟩ := HC.out k hlt
      have hz := HSZ.out k
      unfold maxLen at hz
      have hi := HI.out k
      generalize lastOf ts k = l at *
      generalize htx : tv ts k = t at *
      have HTX := hid htx
      by_cases hs : (t.size : Int) = n
      · cases hp : tlt l t with
        | true =>
          have HA : Hid (okAt n ts k) := hi.2 ⟨hs, hp⟩
          have hle := tlt_leq t l
          rw [hp] at hle
          have hl1 : Op.bytesLess t.toList l.toList = false := (Bool.or_eq_false_iff.1 hle).1
          have hl2 : (t.toList == l.toList) = false := (Bool.or_eq_false_iff.1 hle).2
          clear hi hle hp htx
          go_wp2
          go_round
          case rel => exact ⟨k + 1, by omega, by go_num, by rw [HQ.out k, HTX.out], fun j hj => (Nat.lt_or_eq_of_le (Nat.le_of_lt_succ hj)).elim (HOK.out j) (fun e => e ▸ HA.out)⟩
          case measure => simp [intOf]; omega
        | false =>
          have HA : Hid (¬ okAt n ts k) := fun h => by have := (hi.1 h).2; rw [hp] at this; cases this
          have hle := tlt_leq t l
          rw [hp] at hle
          clear hi hp htx
          cases hl1 : Op.bytesLess t.toList l.toList with
          | true =>
            clear hle
            go_wp2
            go_ret
            exact .inl ⟨rfl, fun h => absurd (h _ hlt) HA.out, rfl⟩
          | false =>
            have hl2 : (t.toList == l.toList) = true := by rw [hl1] at hle; simpa using hle
            clear hle
            go_wp2
            go_ret
            exact .inl ⟨rfl, fun h => absurd (h _ hlt) HA.out, rfl⟩
      · have HA : Hid (¬ okAt n ts k) := fun h => hs (hi.1 h).1
        clear hi htx
        go_wp2
        go_ret
        exact .inl ⟨rfl, fun h => absurd (h _ hlt) HA.out, rfl⟩
    · obtain rfl : k = ts.length := by omega
      go_wp2
      go_ret
      exact .inr ⟨rfl, HOK.out, rfl⟩
set_option maxRecDepth 100000 in
set_option maxHeartbeats 1000000 in
theorem cloneTexts_any (v : Value) (ts : List ByteArray) (w : World) (hv : Reads w v ts) (hl : ts.length ≤ 1048576) (hsz : ∀ i, (tv ts i).size ≤ 1048576) :
    Calls Tryz.prog 84 #[v] w fun e w' => ∃ v', e = .returned v' ∧ w'.ownsRow w.heap.size 9 1 v' ts.length (ts.map Value.string) ∧ Below w.heap.size w w' := by
  obtain ⟨i0, hi, hz0, hz1, hz2⟩ := info_parts Tryz.info9
  obtain ⟨a, ca, rfl, hca⟩ := hv.form
  have HC : Hid (∀ i, i < ts.length → ∃ b off, a = some ⟨b, off, none⟩ ∧ b < w.heap.size ∧ w.cell? ⟨b, off + i, none⟩ = some (.string (tv ts i))) := hca
  have HSZ := hid hsz
  clear hca hv hsz
  go_enter Tryz.func84, Tryz.ntmps84
  go_wp2
  go_loopw [3, 8] (fun v' i wr => ∃ k : Nat, k ≤ ts.length ∧ i = .int .i64 k ∧ wr.ownsRow w.heap.size 9 1 v' k ((ts.take k).map Value.string) ∧ Below w.heap.size w wr) (fun _ i _ => ts.length - (intOf i).toNat)
  case atStart => exact ⟨0, Nat.zero_le _, rfl, World.ownsRow_nil _ _ _ _, Below.refl _ _⟩
  case round =>
    obtain ⟨k, hk, rfl, hown, hb⟩ := hrel
    by_cases hlt : k < ts.length
    · obtain ⟨b1, o1, rfl, hb1, hc1⟩ := HC.out k hlt
      have hd1 := (hb.cell (p := ⟨b1, o1 + k, none⟩) hb1).trans hc1
      have HCL := hid fun W => stringsClone_any (tv ts k) W (by have := HSZ.out k; omega)
      have HN : Hid (ts.take (k + 1) = ts.take k ++ [tv ts k]) := by
        show ts.take (k + 1) = ts.take k ++ [tv ts k]
        rw [List.take_succ_eq_append_getElem hlt]; simp [tv, hlt]
      generalize tv ts k = x at *
      have hsz := hb.size
      clear hc1
      go_wp2_with (first | (go_at_call 59; refine (HCL.out _).mono ?_; rintro e w1 ⟨rfl, hb1⟩; have hown1 := Below.row hb1 hown; have hbb := hb.trans (hb1.mono hb.size); have hbs := hbb.size; clear hown hb1 hb) | (at_builtin; refine wpList_append_own _ rfl _ _ 23 rfl w.heap.size 9 i0 (.string ⟨#[]⟩) 1 16 Tryz.underlying23 hi hz0 hz1 hz2 rfl (by decide) _ _ _ rfl (hown1.alloc _) ⟨_, 0, none⟩ 1 1 [.string x] rfl rfl (cell_one_new _ _ _) (by simp [Value.oneCell']) (by unfold maxLen; omega) (by omega) (by simp; omega) ?_; intro v' w2 hown' hgrow _))
      have hb2 : Below w.heap.size w w2 := append_below hbb hown1 hgrow hbs
      refine ⟨⟨k + 1, by omega, by go_num, ?_, hb2⟩, by simp [intOf]; omega⟩
      rw [HN.out]; simpa using hown'
    · obtain rfl : k = ts.length := by omega
      rw [List.take_length] at hown
      go_wp2
      go_ret
      exact ⟨_, rfl, hown, hb⟩
end Go.Proofs.YtlnkhbnbcmllaaaGreat
