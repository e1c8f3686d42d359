/- spec.Clash: what it answers. -/
import Derived.Test.YtooodilbehnnfaaDoorClashDef
import Derived.Test.YtooodilbehnnfaaDoorCut
import Derived.Test.YtooodilbehnnfaaDoorIter
namespace Go.Proofs.YtooodilbehnnfaaDoor
open Go.RowKit
theorem sumB_size (t : ByteArray) (n : Int) : (sumB t n).size ≤ 8 := by
  have := sumOf_len t.data.toList n
  simpa [sumB, ByteArray.size] using this
set_option maxRecDepth 100000 in
set_option maxHeartbeats 2000000 in
theorem specClash_any (va : Value) (ts : List ByteArray) (n : Int) (w : World) (ha : Reads w va ts) (hl : ts.length ≤ maxLen) (hsz : ∀ i, (tx ts i).size ≤ maxLen) :
    Calls Tryd.prog 37 #[va, .int .i64 n] w fun e w' => ∃ x y b, e = .returned (.tuple #[.string x, .string y, .bool b]) ∧ ClRes ts n x y b ∧ Below w.heap.size w w' := by
  unfold maxLen at hl
  obtain ⟨i0, hi, hz0, hz1, hz2⟩ := info_parts Tryd.info9
  obtain ⟨a, ca, rfl, hca⟩ := ha.form
  cases hw : isW n with
  | false =>
    go_enter Tryd.func37, Tryd.ntmps37
    go_wp2_with (go_at_call 40; refine (l1Width_any _ _).mono ?_; rintro e w' ⟨rfl, rfl⟩)
    go_ret3
    exact ⟨_, _, _, rfl, .inl ⟨rfl, rfl, rfl, .inl hw⟩, Below.refl _ _⟩
  | true =>
    by_cases h2 : 2000 < ts.length
    · have h2' : (2000 : Int) < (ts.length : Int) := by omega
      go_enter Tryd.func37, Tryd.ntmps37
      go_wp2_with (go_at_call 40; refine (l1Width_any _ _).mono ?_; rintro e w' ⟨rfl, rfl⟩)
      go_ret3
      exact ⟨_, _, _, rfl, .inl ⟨rfl, rfl, rfl, .inr (.inl h2)⟩, Below.refl _ _⟩
    · have h2' : ¬ ((2000 : Int) < (ts.length : Int)) := by omega
      have HC : Hid (∀ i, i < ts.length → ∃ b off, a = some ⟨b, off, none⟩ ∧ b < w.heap.size ∧ w.cell? ⟨b, off + i, none⟩ = some (.string (tx ts i))) := hca
      have HW := hid hw
      have HS : Hid (∀ i W, Calls Tryd.prog 28 #[.string (tx ts i), .int .i64 n] W fun e w' => e = .returned (.string (sumB (tx ts i) n)) ∧ Below W.heap.size W w') := fun i W => specSum_any (tx ts i) n W (hsz i)
      clear hca ha hsz
      go_enter Tryd.func37, Tryd.ntmps37
      go_wp2_with (go_at_call 40; refine (l1Width_any _ _).mono ?_; rintro e w ⟨rfl, rfl⟩)
      go_loopw [7, 8, 9, 10] (fun v j' _ _ wr => ∃ j : Nat, j ≤ ts.length ∧ j' = .int .i64 j ∧ NoC ts n j ∧ wr.ownsRow w.heap.size 9 1 v j ((List.range j).map fun i => Value.string (sumB (tx ts i) n)) ∧ Below w.heap.size w wr) (fun _ j' _ _ _ => ts.length - (intOf j').toNat)
      case atStart => exact ⟨0, Nat.zero_le _, rfl, fun j hj => by omega, World.ownsRow_made w #[] 0 (Nat.le_refl _) (by simp [maxLen]) rfl, (Below.refl _ _).alloc (Nat.le_refl _) _⟩
      case round =>
        obtain ⟨j, hj, rfl, hno, hrow, hbl⟩ := hrel
        have HN := hid hno
        clear hno
        by_cases hjl : j < ts.length
        · obtain ⟨b, o, rfl, hbw, hcj⟩ := HC.out j hjl
          have hcj1 : wr.cell? ⟨b, o + j, none⟩ = some (.string (tx ts j)) := (hbl.cell (p := ⟨b, o + j, none⟩) hbw).trans hcj
          have HCJ := hid hcj
          clear hcj
          go_wp2_with fail
          refine (HS.out j _).mono ?_
          rintro e w1 ⟨rfl, hb1⟩
          have hrow1 := Below.row hb1 hrow
          obtain ⟨aS, cS, rfl, hS⟩ := row_form hrow1
          have HSS := hid hS
          clear hS
          have hbl1 : Below w.heap.size w w1 := hbl.trans (hb1.mono hbl.size)
          have HB := hid hbl
          clear hcj1 hbl hb1 hrow
          go_wp2
          go_loopw [10] (fun i' wr2 => ∃ i m : Nat, i ≤ j ∧ i' = .int .i64 i ∧ (∀ i1, i1 < i → clB ts n i1 j = false) ∧ wr2 = w1.drewN m) (fun i' _ => j - (intOf i').toNat)
          case atStart => exact ⟨0, 0, Nat.zero_le _, rfl, fun i1 h => by omega, rfl⟩
          case round =>
            obtain ⟨i, m, hi2, rfl, hnc, hw2⟩ := hrel
            have HNC := hid hnc
            have HW2 := hid hw2
            by_cases hij : i < j
            · obtain ⟨gS, rfl, hgS⟩ := HSS.out (by omega)
              obtain ⟨b', o', e', _, hci⟩ := HC.out i (by omega)
              cases e'
              have c1 : wr.cell? ⟨b, o + i, none⟩ = some (.string (tx ts i)) := by rw [hw2]; exact (hbl1.cell (p := ⟨b, o + i, none⟩) hbw).trans hci
              have c2 : wr.cell? ⟨b, o + j, none⟩ = some (.string (tx ts j)) := by rw [hw2]; exact (hbl1.cell (p := ⟨b, o + j, none⟩) hbw).trans HCJ.out
              have c3 : wr.cell? ⟨gS, i, none⟩ = some (.string (sumB (tx ts i) n)) := by
                rw [hw2]
                refine (hrow1.cellAt i (by omega)).trans ?_
                simp [hij]
              have HD : Hid (clB ts n i j = (((sumB (tx ts i) n).toList == (sumB (tx ts j) n).toList) && !((tx ts i).toList == (tx ts j).toList))) := rfl
              generalize sumB (tx ts i) n = si at *
              generalize sumB (tx ts j) n = sj at *
              clear hw2 hnc hci
              generalize hti : tx ts i = ti at *
              generalize htj : tx ts j = tj at *
              have HTI := hid hti
              have HTJ := hid htj
              clear hti htj
              cases d1 : (si.toList == sj.toList) with
              | false =>
                go_wp2
                go_quiet (fail)
                go_wp2
                go_roundw
                case rel => exact ⟨i + 1, m + nq, by omega, by go_num, fun i1 h1 => (Nat.lt_or_eq_of_le (Nat.le_of_lt_succ h1)).elim (HNC.out i1) (fun e => by rw [e, HD.out, d1]; rfl), by rw [HW2.out, World.drewN_drewN]⟩
                case measure => simp [intOf]; omega
              | true =>
                cases d2 : (ti.toList == tj.toList) with
                | true =>
                  go_wp2
                  go_quiet (fail)
                  go_wp2
                  go_roundw
                  case rel => exact ⟨i + 1, m + nq, by omega, by go_num, fun i1 h1 => (Nat.lt_or_eq_of_le (Nat.le_of_lt_succ h1)).elim (HNC.out i1) (fun e => by rw [e, HD.out, d1, d2]; rfl), by rw [HW2.out, World.drewN_drewN]⟩
                  case measure => simp [intOf]; omega
                | false =>
                  go_wp2
                  go_quiet (fail)
                  go_wp2
                  go_quiet (fail)
                  go_wp2
                  go_ret3
                  refine ⟨ti, tj, true, rfl, .inr ⟨rfl, HW.out, by omega, i, j, hij, hjl, by rw [HD.out, d1, d2]; rfl, HN.out, HNC.out, HTI.out.symm, HTJ.out.symm⟩, ?_⟩
                  rw [HW2.out]
                  exact below_drewN (below_drewN (below_drewN hbl1 m) _) _
            · obtain rfl : i = j := by omega
              subst hw2
              clear hnc
              go_wp2_with (at_builtin; refine wpList_append_own _ rfl _ _ 22 rfl w.heap.size 9 i0 (.string ⟨#[]⟩) 1 16 Tryd.underlying22 hi hz0 hz1 hz2 rfl (by decide) _ _ _ rfl (hrow1.alloc _) ⟨_, 0, none⟩ 1 1 [.string (sumB (tx ts i) n)] rfl rfl (cell_one_new _ _ _) (by simp [Value.oneCell']) (by unfold maxLen; omega) (by omega) (by have := hbl1.size; simp; omega) ?_; intro v' w3 hown' hgrow _)
              refine ⟨⟨i + 1, by omega, by go_num, ?_, ?_, append_below (below_drewN hbl1 m) (hrow1 : (w1.drewN m).ownsRow _ _ _ _ _ _) hgrow (by have := hbl1.size; exact this)⟩, by simp [intOf]; omega⟩
              · intro j1 h1 i1 h2
                rcases Nat.lt_or_eq_of_le (Nat.le_of_lt_succ h1) with h3 | rfl
                · exact HN.out j1 h3 i1 h2
                · exact HNC.out i1 h2
              · rw [List.range_succ, List.map_append]; exact hown'
        · obtain rfl : j = ts.length := by omega
          go_wp2
          go_ret3
          exact ⟨_, _, _, rfl, .inl ⟨rfl, rfl, rfl, .inr (.inr HN.out)⟩, hbl⟩
end Go.Proofs.YtooodilbehnnfaaDoor
