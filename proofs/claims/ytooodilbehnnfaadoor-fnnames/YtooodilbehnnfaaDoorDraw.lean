/- DrawShared. -/
import Derived.Test.YtooodilbehnnfaaDoorNear
import Derived.Test.YtooodilbehnnfaaDoorOpen
namespace Go.Proofs.YtooodilbehnnfaaDoor
open Go.RowKit
set_option maxRecDepth 100000 in
set_option maxHeartbeats 1000000 in
theorem drawShared_any (a : Option Addr) (n cap : Nat) (zs : List Int) (w : World) (h : BytesIn w a n cap zs) (hn : n ≤ maxLen) :
    Calls Tryd.prog 13 #[.slice a n cap] w fun e w' => ∃ s t : ByteArray, e = .returned (.tuple #[.string s, .string t]) ∧ s.size ≤ 3000 ∧ t.size ≤ 7000 ∧ Below w.heap.size w w' := by
  go_enter Tryd.func13, Tryd.ntmps13
  go_wp2_with fail
  refine (l1Open_any a n cap zs _ h hn).mono ?_
  rintro e w1 ⟨rfl, nn, bs, hr1, hb1⟩
  have HR1 := hid hr1
  clear hr1
  go_wp2_with fail
  refine (l2Thing_any w.heap.size a nn cap bs 0 _ HR1.out (by omega)).mono ?_
  rintro e w2 ⟨s, rfl, hs, p2, hp2, hr2, hb2⟩
  have HR2 := hid hr2
  clear hr2
  go_wp2_with fail
  refine (l2Near_any w.heap.size a nn cap bs p2 s _ HR2.out (by omega) hs).mono ?_
  rintro e w3 ⟨t, rfl, ht, p3, hp3, hr3, hb3⟩
  go_wp2
  go_ret2
  exact ⟨s, t, rfl, hs, ht, hb1.trans (hb2.trans hb3)⟩
end Go.Proofs.YtooodilbehnnfaaDoor
