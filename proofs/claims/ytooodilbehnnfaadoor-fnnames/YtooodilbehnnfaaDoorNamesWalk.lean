/- laws.FnNames: the walk. -/
import Derived.Test.YtooodilbehnnfaaDoorWTwo
import Derived.Test.YtooodilbehnnfaaDoorDraw
import Derived.Test.YtooodilbehnnfaaDoorSharedI
namespace Go.Proofs.YtooodilbehnnfaaDoor
open Go.RowKit
set_option maxRecDepth 100000 in
set_option maxHeartbeats 1000000 in
theorem fnNames_walk (a : Option Addr) (n cap : Nat) (zs : List Int) (w : World) (h : BytesIn w a n cap zs) (hn : n ≤ maxLen) (htab : Lib.TabIs Tryd.prog w "internal/strconv.uint64pow10" .u64 Lib.pow10Tab) :
    Calls Tryd.prog 5 #[.slice a n cap] w fun e w' => e = .returned (.bool true) ∧ Below w.heap.size w w' := by
  have HD := hid (drawShared_any a n cap zs w h hn)
  have HT := hid htab
  clear h htab
  unfold maxLen at hn
  by_cases hlt : 1048576 < n
  · have hlt' : (1048576 : Int) < (n : Int) := by omega
    go_enter Tryd.func5, Tryd.ntmps5
    go_wp2
    go_ret
    exact ⟨by simp, Below.refl _ _⟩
  · have hlt' : ¬ ((1048576 : Int) < (n : Int)) := by omega
    go_enter Tryd.func5, Tryd.ntmps5
    go_wp2_with fail
    refine HD.out.mono ?_
    rintro e w1 ⟨s, t, rfl, hs, ht, hb1⟩
    have HB1 := hid hb1
    have HT1 := hid (tab_below HT.out hb1)
    have HIa := hid fun (m : Int) W h2 => implName_any s m W h2
    have HIb := hid fun (m : Int) W h2 => implName_any t m W h2
    have HSa := hid fun (m : Int) W => specName_any s m W (by unfold maxLen; omega)
    have HSb := hid fun (m : Int) W => specName_any t m W (by unfold maxLen; omega)
    have HW := hid fun (m : Int) W h1 h3 h4 h5 => wTwo_any s t m W h1 hs h3 h4 h5
    have HXs := hid fun W => specShared_any s t W (by unfold maxLen; omega) (by unfold maxLen; omega)
    have HXi := hid fun W => implShared_any s t W
    generalize sharedOf (piecesOf s) (piecesOf t) = shv at *
    clear hb1 HD HT
    go_wp2
    go_loopw [5, 6, 7] (fun k' _ _ wr => ∃ k : Nat, 1 ≤ k ∧ k ≤ 9 ∧ k' = .int .i64 k ∧ Below w1.heap.size w1 wr) (fun k' _ _ _ => 9 - (intOf k').toNat)
    case atStart => exact ⟨1, by omega, by omega, rfl, Below.refl _ _⟩
    case round =>
      obtain ⟨k, hk1, hk9, rfl, hbl⟩ := hrel
      by_cases hk8 : k ≤ 8
      · have hk' : (k : Int) ≤ 8 := by omega
        have hwk : isW (k : Int) = true := by simp [isW]; omega
        have HWK := hid hwk
        clear hwk
        go_wp2_with fail
        refine (HIa.out _ _ (tab_below HT1.out hbl)).mono ?_
        rintro e w2 ⟨rfl, hb2⟩
        have hb2' := hbl.trans (hb2.mono hbl.size)
        clear hb2 hbl
        go_wp2_with fail
        refine (HIb.out _ _ (tab_below HT1.out hb2')).mono ?_
        rintro e w3 ⟨rfl, hb3⟩
        have HB3 := hid (hb2'.trans (hb3.mono hb2'.size))
        clear hb3 hb2'
        go_wp2_with fail
        refine (HSa.out _ _).mono ?_
        rintro e w4 ⟨rfl, hb4⟩
        have HB4 := hid (HB3.out.trans (hb4.mono HB3.out.size))
        clear hb4 HB3
        go_wp2_with fail
        refine (HSb.out _ _).mono ?_
        rintro e w5 ⟨rfl, hb5⟩
        have HB5 := hid (HB4.out.trans (hb5.mono HB4.out.size))
        clear hb5 HB4
        have HWW := hid fun W h3 h4 h5 => HW.out (k : Int) W HWK.out h3 h4 h5
        generalize nameB s k = X at *
        generalize nameB t k = Y at *
        by_cases hX : X.toList = Y.toList
        · by_cases hS : s.toList = t.toList
          · have hX' : (X.toList == Y.toList) = true := by simpa using hX
            have hS' : (s.toList == t.toList) = true := by simpa using hS
            go_wp2
            go_round
            case rel => exact ⟨k + 1, by omega, by omega, by go_num, HB5.out⟩
            case measure => simp [intOf]; omega
          · by_cases h3 : t.size ≤ 3000
            · have hX' : (X.toList == Y.toList) = true := by simpa using hX
              have hS' : (s.toList == t.toList) = false := by simpa using hS
              have h3' : (t.size : Int) ≤ 3000 := by omega
              have hs' : (s.size : Int) ≤ 3000 := by omega
              have HC := hid fun W => HWW.out W h3 (fun e => hS (by rw [e])) (toList_ext hX)
              go_wp2_with fail
              refine (HC.out _).mono ?_
              rintro e w6 ⟨rfl, hb6⟩
              have HB6 := hid (HB5.out.trans (hb6.mono HB5.out.size))
              clear hb6
              go_wp2
              go_round
              case rel => exact ⟨k + 1, by omega, by omega, by go_num, HB6.out⟩
              case measure => simp [intOf]; omega
            · have hX' : (X.toList == Y.toList) = true := by simpa using hX
              have hS' : (s.toList == t.toList) = false := by simpa using hS
              have h3' : ¬ ((t.size : Int) ≤ 3000) := by omega
              have hs' : (s.size : Int) ≤ 3000 := by omega
              go_wp2
              go_round
              case rel => exact ⟨k + 1, by omega, by omega, by go_num, HB5.out⟩
              case measure => simp [intOf]; omega
        · have hX' : (X.toList == Y.toList) = false := by simpa using hX
          go_wp2
          go_round
          case rel => exact ⟨k + 1, by omega, by omega, by go_num, HB5.out⟩
          case measure => simp [intOf]; omega
      · have hk' : ¬ ((k : Int) ≤ 8) := by omega
        have HBL := hid hbl
        clear hbl
        go_wp2_with fail
        refine (HXi.out _).mono ?_
        rintro e w2 ⟨rfl, hb2⟩
        have HB2 := hid (HBL.out.trans (hb2.mono HBL.out.size))
        clear hb2
        go_wp2_with fail
        refine (HXs.out _).mono ?_
        rintro e w3 ⟨rfl, hb3⟩
        have HB3 := hid (HB1.out.trans ((HB2.out.trans (hb3.mono HB2.out.size)).mono HB1.out.size))
        clear hb3
        go_wp2
        go_ret
        exact ⟨by simp, HB3.out⟩
end Go.Proofs.YtooodilbehnnfaaDoor
