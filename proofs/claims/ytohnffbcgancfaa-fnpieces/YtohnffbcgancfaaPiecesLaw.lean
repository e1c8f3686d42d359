/- laws.FnPieces, walked. -/
import Derived.Test.YtohnffbcgancfaaTail
import Derived.Test.YtohnffbcgancfaaDraw
import Derived.Test.YtohnffbcgancfaaPieces
namespace Go.Proofs.Ytohnffbcgancfaa
open Go.RowKit
set_option maxRecDepth 100000 in
set_option maxHeartbeats 400000 in
theorem wTexts_any (va vb : Value) (ps : List ByteArray) (w : World) (ha : Reads w va ps) (hb : Reads w vb ps) (hl : ps.length ≤ maxLen) :
    Calls Try.prog 21 #[va, vb] w fun e w' => e = .returned (.bool true) ∧ ∃ n, w' = w.drewN n := by
  unfold maxLen at hl
  obtain ⟨a, ca, rfl, hca⟩ := ha.form
  obtain ⟨b, cb, rfl, hcb⟩ := hb.form
  go_enter Try.func21, Try.ntmps21
  go_wp2
  go_loopw [5] (fun i wr => ∃ k n : Nat, k ≤ ps.length ∧ i = .int .i64 k ∧ wr = w.drewN n) (fun i _ => ps.length - (intOf i).toNat)
  case atStart => exact ⟨0, 0, Nat.zero_le _, rfl, rfl⟩
  case round =>
    obtain ⟨k, n, hk, rfl, hw⟩ := hrel
    by_cases hlt : k < ps.length
    · obtain ⟨b1, o1, rfl, hb1, hc1⟩ := hca k hlt
      obtain ⟨b2, o2, rfl, hb2, hc2⟩ := hcb k hlt
      have hd1 : wr.cell? ⟨b1, o1 + k, none⟩ = _ := (by rw [hw]; rfl : wr.cell? ⟨b1, o1 + k, none⟩ = w.cell? ⟨b1, o1 + k, none⟩).trans hc1
      have hd2 : wr.cell? ⟨b2, o2 + k, none⟩ = _ := (by rw [hw]; rfl : wr.cell? ⟨b2, o2 + k, none⟩ = w.cell? ⟨b2, o2 + k, none⟩).trans hc2
      generalize ps.getD k ByteArray.empty = s at *
      have HW := hid hw
      clear hca hcb hc1 hc2 ha hb hw
      go_wp2
      go_quiet (fail)
      go_wp2
      go_roundw
      case rel => exact ⟨k + 1, n + nq, by omega, by go_num, by rw [HW.out, World.drewN_drewN]⟩
      case measure => simp [intOf]; omega
    · have HW := hid hw
      clear hw
      go_wp2
      go_ret
      exact ⟨by simp, n, HW.out⟩
theorem row_view {w : World} {base : Nat} {v : Value} {ps : List ByteArray} (h : w.ownsRow base 9 1 v ps.length (ps.map Value.string)) :
    ∃ a cap, v = .slice a ps.length cap ∧ (0 < ps.length → ∃ g, a = some ⟨g, 0, none⟩ ∧ ps.length ≤ cap ∧ g < w.heap.size ∧ ∀ i, i < ps.length → w.cell? ⟨g, i, none⟩ = some (.string (ps.getD i ByteArray.empty))) := by
  rcases h with ⟨h1, ⟨rfl, hn⟩ | ⟨g, cap, cur, rfl, hb, hg, hn, hm, hs, hx⟩⟩
  · exact ⟨none, 0, by rw [hn], fun h => by omega⟩
  · refine ⟨_, cap, rfl, fun _ => ⟨g, rfl, hn, (Array.getElem?_eq_some_iff.1 hg).1, fun i hi => ?_⟩⟩
    have hr : w.ownsRow base 9 1 (.slice (some ⟨g, 0, none⟩) ps.length cap) ps.length (ps.map Value.string) := ⟨h1, .inr ⟨g, cap, cur, rfl, hb, hg, hn, hm, hs, hx⟩⟩
    rw [hr.cellAt i (by omega)]
    simp [hi]
theorem reads_drop {w : World} {g c : Nat} {P : List ByteArray} (i : Nat) (hg : g < w.heap.size) (hc : ∀ j, j < P.length → w.cell? ⟨g, j, none⟩ = some (.string (P.getD j ByteArray.empty))) :
    Reads w (.slice (some ⟨g, i, none⟩) (P.length - i) c) (P.drop i) := by
  refine .inr ⟨g, i, c, by rw [List.length_drop], hg, fun j hj => ?_⟩
  rw [List.length_drop] at hj
  have := hc (i + j) (by omega)
  rw [show ((P.drop i).getD j ByteArray.empty) = P.getD (i + j) ByteArray.empty by simp [List.getD_eq_getElem?_getD]]
  exact this
theorem quiet_again {w : World} {m m' : Nat} {f : FuncId} {args : Array Value} {v : Value} (h : Calls Try.prog f args (w.drewN (m + m')) fun e w' => e = .returned v ∧ ∃ n, w' = (w.drewN (m + m')).drewN n) :
    Calls Try.prog f args ((w.drewN m).drewN m') fun e w' => e = .returned v ∧ ∃ n, w' = (w.drewN m).drewN n := by
  rw [World.drewN_drewN]
  refine h.mono ?_
  rintro e w' ⟨h1, n, rfl⟩
  exact ⟨h1, m' + n, by rw [World.drewN_drewN, World.drewN_drewN, Nat.add_assoc]⟩
set_option maxRecDepth 100000 in
set_option maxHeartbeats 4000000 in
theorem fnPieces_walk (a : Option Addr) (n cap : Nat) (zs : List Int) (w : World) (h : BytesIn w a n cap zs) (hn : n ≤ maxLen) :
    Calls Try.prog 6 #[.slice a n cap] w fun e w' => e = .returned (.bool true) ∧ Below w.heap.size w w' := by
  have HD := hid (drawShared_any a n cap zs w h hn)
  clear h
  unfold maxLen at hn
  by_cases hlt : 1048576 < n
  · have hlt' : (1048576 : Int) < (n : Int) := by omega
    go_enter Try.func6, Try.ntmps6
    go_wp2
    go_ret
    exact ⟨by simp, Below.refl _ _⟩
  · have hlt' : ¬ ((1048576 : Int) < (n : Int)) := by omega
    go_enter Try.func6, Try.ntmps6
    go_wp2_with fail
    refine HD.out.mono ?_
    rintro e w1 ⟨s, t, rfl, hs, ht, hb1⟩
    go_wp2_with fail
    refine (implPieces_any s _).mono ?_
    rintro e w2 ⟨v2, rfl, ho2, hb2⟩
    go_wp2_with fail
    refine (implPieces_any t _).mono ?_
    rintro e w3 ⟨v3, rfl, ho3, hb3⟩
    have HO2 := hid (Below.row hb3 ho2)
    go_wp2_with fail
    refine (specPieces_any s _ (by unfold maxLen; omega)).mono ?_
    rintro e w4 ⟨v4, rfl, ho4, hb4⟩
    have HO2' := hid (Below.row hb4 HO2.out)
    have HO3 := hid (Below.row hb4 ho3)
    have hl2 : (piecesOf s).length ≤ maxLen := by have := piecesOf_len s; unfold maxLen; omega
    have hl3 : (piecesOf t).length ≤ maxLen := by have := piecesOf_len t; unfold maxLen; omega
    go_wp2_with fail
    refine (wTexts_any v2 v4 (piecesOf s) _ (Reads.of_row HO2'.out) (Reads.of_row ho4) hl2).mono ?_
    rintro e w5 ⟨rfl, m5, rfl⟩
    go_wp2_with fail
    refine (specPieces_any t _ (by unfold maxLen; omega)).mono ?_
    rintro e w6 ⟨v6, rfl, ho6, hb6⟩
    have hb46 : Below w4.heap.size w4 w6 := ⟨hb6.os, hb6.tape, hb6.output, hb6.size, hb6.block⟩
    have HP := hid (Below.row hb46 HO2'.out)
    have HQ := hid (Below.row hb46 HO3.out)
    go_wp2_with fail
    refine (wTexts_any v3 v6 (piecesOf t) _ (Reads.of_row HQ.out) (Reads.of_row ho6) hl3).mono ?_
    rintro e w7 ⟨rfl, m7, rfl⟩
    have hz1 := hb1.size
    have hz2 := hb2.size
    have hz3 := hb3.size
    have hz4 := hb4.size
    have HB := hid (hb1.trans ((hb2.mono hz1).trans ((hb3.mono (by omega)).trans ((hb4.mono (by omega)).trans (hb46.mono (by omega))))))
    clear hb1 hb2 hb3 hb4 hb46 hb6 ho2 ho3 ho4 ho6 HO2 HO2' HO3 HD hz1 hz2 hz3 hz4
    obtain ⟨aP, cP, rfl, hP⟩ := row_view HP.out
    obtain ⟨aQ, cQ, rfl, hQ⟩ := row_view HQ.out
    clear HP HQ
    have HPC := hid (piecesOf_pcs s hs)
    have HTP := hid (piecesOf_tp s hs)
    have HQF : Hid (piecesOf t = [] ∨ (Pcs t 0 (piecesOf t) ∧ piecesOf t = tp t t.size 0 0)) := by
      by_cases h3 : t.size ≤ 3000
      · exact .inr ⟨piecesOf_pcs t h3, piecesOf_tp t h3⟩
      · exact .inl (by simp [piecesOf]; omega)
    have hlP := piecesOf_len s
    have hlQ := piecesOf_len t
    generalize piecesOf s = P at *
    generalize piecesOf t = Q at *
    clear hl2 hl3
    have HPv := hid hP
    have HQv := hid hQ
    clear hP hQ
    go_wp2
    go_loopw [7, 8, 9, 10, 11, 12] (fun at' i' _ _ _ _ wr => ∃ (i at_ m : Nat), i ≤ P.length ∧ i' = .int .i64 i ∧ at' = .int .i64 at_ ∧ at_ ≤ s.size ∧ Pcs s at_ (P.drop i) ∧ P.drop i = tp s (s.size - at_) at_ at_ ∧ wr = w6.drewN m) (fun _ i' _ _ _ _ _ => P.length - (intOf i').toNat)
    case atStart => exact ⟨0, 0, m7, Nat.zero_le _, rfl, rfl, Nat.zero_le _, HPC.out, HTP.out, rfl⟩
    case round =>
      obtain ⟨i, at_, m, hi, rfl, rfl, hats, hpcs, htp, hw⟩ := hrel
      by_cases hil : i < P.length
      · obtain ⟨g, rfl, hgc, hgl, hcells⟩ := HPv.out (by omega)
        have hci : wr.cell? ⟨g, i, none⟩ = _ := (by rw [hw]; rfl : wr.cell? ⟨g, i, none⟩ = w6.cell? ⟨g, i, none⟩).trans (hcells i hil)
        rw [List.drop_eq_getElem_cons hil] at hpcs
        have eg : P.getD i ByteArray.empty = P[i] := by simp [hil]
        rw [eg] at hci
        have HT := hid htp
        have HW := hid hw
        obtain ⟨q1, q2, q3, q4, q5, q6, q7⟩ := hpcs
        have q5' : i + 1 < P.length → 8 ≤ P[i].size := fun hh => q5 (by intro e; have := congrArg List.length e; simp at this; omega)
        generalize P[i] = p at *
        have hcmp : ((s.extract at_ (at_ + p.size)).toList == p.toList) = true := by rw [← q1]; simp
        have H6 := hid q6
        have H7 := hid q7
        have H1 := hid q1
        clear eg htp hw q1 q5 q6 q7
        have d1 : decide ((p.size : Int) < 1) = false := by simp; omega
        have d2 : decide ((64 : Int) < (p.size : Int)) = false := by simp; omega
        have ew : IntKind.i64.wrap ((at_ : Int) + (p.size : Int)) = (at_ : Int) + (p.size : Int) := wrap_mid _ (by omega) (by omega)
        have ew1 : IntKind.i64.wrap ((i : Int) + 1) = (i : Int) + 1 := wrap_mid _ (by omega) (by omega)
        have hs1 : (at_ : Int) + (p.size : Int) ≤ (s.size : Int) := by omega
        have HR := hid fun m' => reads_drop (w := w6.drewN m') (c := cP - i) i hgl hcells
        clear hcells
        have hpl : (p.size : Int) ≤ 64 := by omega
        have hgc' : (P.length : Int) ≤ (cP : Int) := by omega
        have key : decide ((p.size : Int) < 8) = false ∨ (decide ((p.size : Int) < 8) = true ∧ decide ((i : Int) + 1 < (P.length : Int)) = false) := by
          by_cases h8 : 8 ≤ p.size
          · exact .inl (by simp; omega)
          · exact .inr ⟨by simp; omega, by simp; omega⟩
        rcases key with d3 | ⟨d3, d4⟩
        all_goals go_wp2
        all_goals go_quiet (fail)
        all_goals go_wp2
        all_goals
          go_loopw [11, 12] (fun en' k' wr' => ∃ (k en m2 : Nat), k ≤ Q.length ∧ k' = .int .i64 k ∧ en' = .int .i64 en ∧ (Q = [] ∨ (en ≤ t.size ∧ Pcs t en (Q.drop k) ∧ Q.drop k = tp t (t.size - en) en en)) ∧ wr' = w6.drewN m2) (fun _ k' _ => Q.length - (intOf k').toNat)
          case atStart =>
            refine ⟨0, 0, m + nq, Nat.zero_le _, rfl, rfl, ?_, by rw [HW.out, World.drewN_drewN]⟩
            rcases HQF.out with e | ⟨e1, e2⟩
            · exact .inl e
            · exact .inr ⟨Nat.zero_le _, e1, e2⟩
          case round =>
            obtain ⟨k, en, m2, hk, rfl, rfl, hq, hw2⟩ := hrel
            by_cases hkl : k < Q.length
            · obtain ⟨g2, rfl, hgc2, hgl2, hcells2⟩ := HQv.out (by omega)
              rcases hq with e | ⟨hen, hq1, hq2⟩
              · subst e; simp at hkl
              · have hck : wr.cell? ⟨g2, k, none⟩ = _ := (by rw [hw2]; rfl : wr.cell? ⟨g2, k, none⟩ = w6.cell? ⟨g2, k, none⟩).trans (hcells2 k hkl)
                have HQ2 := hid hq2
                have HW2 := hid hw2
                have HR2 := hid fun m' => reads_drop (w := w6.drewN m') (c := cQ - k) k hgl2 hcells2
                rw [List.drop_eq_getElem_cons hkl] at hq1
                have eg2 : Q.getD k ByteArray.empty = Q[k] := by simp [hkl]
                rw [eg2] at hck
                obtain ⟨z1, z2, z3, z4, z5, z6, z7⟩ := hq1
                generalize Q[k] = q at *
                have Z6 := hid z6
                have Z7 := hid z7
                clear hcells2 eg2 hq2 hw2 z1 z5 z6 z7
                have ewt : IntKind.i64.wrap ((t.size : Int) - (en : Int)) = (t.size : Int) - (en : Int) := wrap_mid _ (by omega) (by omega)
                have hgc2' : (Q.length : Int) ≤ (cQ : Int) := by omega
                have hent : (en : Int) ≤ (t.size : Int) := by omega
                have hast : (at_ : Int) ≤ (s.size : Int) := by omega
                cases dE : (((t.size : Int) - (en : Int)) == ((s.size : Int) - (at_ : Int))) with
                | false =>
                  go_wp2
                  go_quiet (fail)
                  go_wp2
                  go_roundw
                  case rel => exact ⟨k + 1, en + q.size, m2 + nq, by omega, by go_num, by go_num, .inr ⟨z4, Z7.out, Z6.out⟩, by rw [HW2.out, World.drewN_drewN]⟩
                  case measure => simp [intOf]; omega
                | true =>
                  cases dS : ((t.extract en t.size).toList == (s.extract at_ s.size).toList) with
                  | false =>
                    go_wp2
                    go_quiet (fail)
                    go_wp2
                    go_roundw
                    case rel => exact ⟨k + 1, en + q.size, m2 + nq, by omega, by go_num, by go_num, .inr ⟨z4, Z7.out, Z6.out⟩, by rw [HW2.out, World.drewN_drewN]⟩
                    case measure => simp [intOf]; omega
                  | true =>
                    have hsame : P.drop i = Q.drop k := by
                      rw [HT.out, HQ2.out]
                      have e0 : t.extract en t.size = s.extract at_ s.size := by
                        apply ByteArray.ext; apply Array.ext'
                        have := eq_of_beq dS
                        rwa [ByteArray.toList_eq, ByteArray.toList_eq] at this
                      have e1 : t.size - en = s.size - at_ := by have := eq_of_beq dE; omega
                      exact (tp_same e0 e1 hats hen).symm
                    have HC := hid fun m' : Nat => wTexts_any (.slice (some ⟨g, i, none⟩) (P.length - i) (cP - i)) (.slice (some ⟨g2, k, none⟩) (Q.length - k) (cQ - k)) (P.drop i) (w6.drewN m') (HR.out m') (by rw [hsame]; exact HR2.out m') (by simp [maxLen]; omega)
                    have HC' := hid fun m' : Nat => quiet_again (HC.out (m2 + m'))
                    rw [← HW2.out] at HC'
                    clear hsame HC
                    go_wp2
                    go_quiet ((go_at_call 21; exact HC'.out _))
                    go_wp2
                    go_roundw
                    case rel => exact ⟨k + 1, en + q.size, m2 + nq, by omega, by go_num, by go_num, .inr ⟨z4, Z7.out, Z6.out⟩, by rw [HW2.out, World.drewN_drewN]⟩
                    case measure => simp [intOf]; omega
            · have HW2 := hid hw2
              clear hw2 hq
              go_wp2
              go_roundw
              case rel => exact ⟨i + 1, at_ + p.size, m2, by omega, by go_num, by go_num, q4, H7.out, H6.out, HW2.out⟩
              case measure => simp [intOf]; omega
      · have hie : P.drop i = [] := List.drop_of_length_le (by omega)
        rw [hie] at hpcs
        have hfin : at_ = s.size := hpcs
        have heq : ((at_ : Int) == (s.size : Int)) = true := by simp; omega
        have HF := hid hfin
        have HW := hid hw
        clear hfin hpcs hie htp hw
        go_wp2
        go_ret
        exact ⟨by simp, by rw [HW.out]; exact below_drewN HB.out _⟩
end Go.Proofs.Ytohnffbcgancfaa
