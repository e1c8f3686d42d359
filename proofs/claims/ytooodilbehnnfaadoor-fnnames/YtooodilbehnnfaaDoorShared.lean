/- spec.Shared and impl.Shared: how much of a text lies in pieces of another. -/
import Derived.Test.YtooodilbehnnfaaDoorPiecesBase
import Derived.Maps.OwnIn
import Derived.Shelf.Abstract
import Derived.Maps.Views
namespace Go.Proofs.YtooodilbehnnfaaDoor
open Go.RowKit
attribute [local go_sem] Oper.semAt_some
def hasB (ps : List ByteArray) (x : ByteArray) : Bool := ps.any fun p => p.toList == x.toList
def sharedOf (ps qs : List ByteArray) : Nat := qs.foldl (fun n x => if hasB ps x then n + x.size else n) 0
theorem sharedOf_snoc (ps qs : List ByteArray) (x : ByteArray) : sharedOf ps (qs ++ [x]) = if hasB ps x then sharedOf ps qs + x.size else sharedOf ps qs := by
  unfold sharedOf; rw [List.foldl_append]; rfl
theorem sharedOf_le (ps : List ByteArray) : ∀ (qs : List ByteArray), (∀ q ∈ qs, q.size ≤ 3000) → sharedOf ps qs ≤ 3000 * qs.length := by
  intro qs
  have : ∀ (qs : List ByteArray) (n : Nat), (∀ q ∈ qs, q.size ≤ 3000) → qs.foldl (fun n x => if hasB ps x then n + x.size else n) n ≤ n + 3000 * qs.length := by
    intro qs
    induction qs with
    | nil => intro n _; simp
    | cons q qs ih =>
      intro n h
      have hq := h q (by simp)
      have := ih (if hasB ps q then n + q.size else n) (fun q' h' => h q' (by simp [h']))
      have h2 : (if hasB ps q then n + q.size else n) ≤ n + 3000 := by split <;> omega
      rw [List.foldl_cons, List.length_cons]
      omega
  intro h; have := this qs 0 h; unfold sharedOf; omega
set_option maxRecDepth 100000 in
set_option maxHeartbeats 400000 in
theorem l2In_any (va : Value) (ps : List ByteArray) (x : ByteArray) (w : World) (ha : Reads w va ps) (hl : ps.length ≤ maxLen) :
    Calls Tryd.prog 39 #[va, .string x] w fun e w' => e = .returned (.bool (hasB ps x)) ∧ w' = w := by
  unfold maxLen at hl
  obtain ⟨a, ca, rfl, hca⟩ := ha.form
  go_enter Tryd.func39, Tryd.ntmps39
  go_wp2
  go_loop [5] (fun i => ∃ k : Nat, k ≤ ps.length ∧ i = .int .i64 k ∧ hasB (ps.take k) x = false) (fun i => ps.length - (intOf i).toNat)
  case atStart => exact ⟨0, Nat.zero_le _, rfl, by simp [hasB]⟩
  case round =>
    obtain ⟨k, hk, rfl, hno⟩ := hrel
    by_cases hlt : k < ps.length
    · obtain ⟨b1, o1, rfl, hb1, hc1⟩ := hca k hlt
      have hsn : hasB (ps.take (k + 1)) x = (hasB (ps.take k) x || ((ps.getD k ByteArray.empty).toList == x.toList)) := by
        unfold hasB; rw [List.take_succ_eq_append_getElem hlt, List.any_append, List.getD_eq_getElem?_getD, List.getElem?_eq_getElem hlt]; simp
      have hall : ((ps.getD k ByteArray.empty).toList == x.toList) = true → hasB ps x = true := fun h => by
        unfold hasB; rw [List.any_eq_true]; exact ⟨ps[k], List.getElem_mem hlt, by simpa [hlt] using h⟩
      generalize ps.getD k ByteArray.empty = q at *
      have HN := hid hsn
      have HA := hid hall
      have HO := hid hno
      clear hsn hall hno hca ha
      cases hq : (q.toList == x.toList) with
      | true =>
        go_wp2
        go_ret
        rw [HA.out hq]
        exact ⟨by simp, rfl⟩
      | false =>
        go_wp2
        go_round
        case rel => exact ⟨k + 1, by omega, by go_num, by rw [HN.out, HO.out, hq]; rfl⟩
        case measure => simp [intOf]; omega
    · have e : hasB ps x = false := by rw [List.take_of_length_le (by omega)] at hno; exact hno
      have HE := hid e
      clear e hno
      go_wp2
      go_ret
      rw [HE.out]
      exact ⟨by simp, rfl⟩
set_option maxRecDepth 100000 in
set_option maxHeartbeats 1000000 in
theorem specShared_any (a b : ByteArray) (w : World) (ha : a.size ≤ maxLen) (hb : b.size ≤ maxLen) :
    Calls Tryd.prog 16 #[.string a, .string b] w fun e w' => e = .returned (.int .i64 (sharedOf (piecesOf a) (piecesOf b))) ∧ Below w.heap.size w w' := by
  have HA := hid fun W => specPieces_any a W ha
  have HB := hid fun W => specPieces_any b W hb
  have hna := piecesOf_len a
  have hnb := piecesOf_len b
  have hsz := piecesOf_size b
  generalize piecesOf a = ps at *
  generalize piecesOf b = qs at *
  have hml : ps.length ≤ maxLen := by unfold maxLen; omega
  go_enter Tryd.func16, Tryd.ntmps16
  go_wp2_with fail
  refine (HA.out _).mono ?_
  rintro e w1 ⟨v1, rfl, ho1, hb1⟩
  go_wp2_with fail
  refine (HB.out _).mono ?_
  rintro e w2 ⟨v2, rfl, ho2, hb2⟩
  have r1 : Reads w2 v1 ps := (Reads.of_row ho1).below hb2
  have r2 : Reads w2 v2 qs := Reads.of_row ho2
  obtain ⟨a2, c2, rfl, hc2⟩ := r2.form
  have HL := hid fun x => l2In_any v1 ps x w2 r1 hml
  have hbz : Below w.heap.size w w2 := hb1.trans (hb2.mono hb1.size)
  clear r1 r2 ho1 ho2
  go_wp2
  go_loop [7, 8] (fun n i => ∃ k : Nat, k ≤ qs.length ∧ i = .int .i64 k ∧ n = .int .i64 (sharedOf ps (qs.take k))) (fun _ i => qs.length - (intOf i).toNat)
  case atStart => exact ⟨0, Nat.zero_le _, rfl, by simp [sharedOf]⟩
  case round =>
    obtain ⟨k, hk, rfl, rfl⟩ := hrel
    by_cases hlt : k < qs.length
    · obtain ⟨b1, o1, rfl, hbl, hc1⟩ := hc2 k hlt
      have hs := sharedOf_le ps (qs.take k) (fun q hq => hsz q (List.mem_of_mem_take hq))
      have hsl : (qs.take k).length ≤ 3000 := by simp; omega
      have hq : (qs.getD k ByteArray.empty).size ≤ 3000 := hsz _ (by simp [hlt])
      have HN := hid (sharedOf_snoc ps (qs.take k) (qs.getD k ByteArray.empty))
      have e1 : qs.take k ++ [qs.getD k ByteArray.empty] = qs.take (k + 1) := by rw [List.take_succ_eq_append_getElem hlt]; simp [hlt]
      rw [e1] at HN
      generalize qs.getD k ByteArray.empty = q at *
      have HQ := hid (HL.out q)
      cases hh : hasB ps q with
      | true =>
        rw [hh, if_pos rfl] at HN
        rw [hh] at HQ
        generalize sharedOf ps (qs.take k) = t at *
        clear hc2 hsz hh e1
        go_wp2_with (go_at_call 39; refine HQ.out.mono ?_; rintro e w' ⟨rfl, rfl⟩)
        refine ⟨⟨k + 1, by omega, by go_num, by rw [HN.out]; go_num⟩, by simp [intOf]; omega⟩
      | false =>
        rw [hh, if_neg (by simp)] at HN
        rw [hh] at HQ
        generalize sharedOf ps (qs.take k) = t at *
        clear hc2 hsz hh e1
        go_wp2_with (go_at_call 39; refine HQ.out.mono ?_; rintro e w' ⟨rfl, rfl⟩)
        refine ⟨⟨k + 1, by omega, by go_num, by rw [HN.out]⟩, by simp [intOf]; omega⟩
    · have e1 : qs.take k = qs := List.take_of_length_le (by omega)
      rw [e1]
      go_wp2
      go_ret
      exact ⟨by simp, hbz⟩
end Go.Proofs.YtooodilbehnnfaaDoor
