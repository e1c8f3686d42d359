/- impl.ValidStore says whether a store is valid. -/
import Derived.Test.YtmcipciimnncmaaOpenStore
import Derived.Test.YtmcipciimnncmaaValidSpec
namespace Go.Proofs.Ytmcipciimnncmaa
open Go.RowKit
set_option maxRecDepth 100000 in
set_option maxHeartbeats 1000000 in
theorem implValidStore_any (wd room : Int) (vi vp : Value) (its : Itms) (ts : List ByteArray) (w : World) (hi : RdI w vi its) (hp : Reads w vp ts) (hli : its.length ≤ 1048576) (hlp : ts.length ≤ 1048576) (hsi : ∀ i, (itx its i).size ≤ 1048576) (hsp : ∀ i, (tv ts i).size ≤ 1048576) :
    Calls Try.prog 11 #[.agg #[.int .i64 wd, .int .i64 room, vi, vp]] w fun e w' => VRes (ValidSt wd room its ts) w e w' := by
  have hA := (Below.refl w.heap.size w).alloc (Nat.le_refl _) (.cells #[.int .i64 wd, .int .i64 room, vi, vp] 30)
  have HO := hid (openStore_any wd room vi vp its ts _ (hi.below hA) (hp.below hA) hli hlp hsi hsp)
  obtain ⟨ai, ci, rfl, _⟩ := hi
  obtain ⟨ap, cp, rfl, _⟩ := hp.form
  have HA := hid hA
  clear hp hA hsi hsp
  go_enter Try.func11, Try.ntmps11
  go_wp2_with fail
  refine HO.out.mono ?_
  rintro e w1 (⟨hn, rfl, hb1⟩ | ⟨hv, sb, mb, vc, rfl, _, hb1⟩)
  · have HF := hid hn
    have HB := hid (HA.out.trans (hb1.mono (by simp)))
    clear hn hb1
    go_wp2
    go_ret
    exact VRes.no HF.out HB.out
  · have HF := hid hv
    have HB := hid (HA.out.trans (hb1.mono (by simp)))
    clear hv hb1
    go_wp2
    go_ret
    exact VRes.yes HF.out HB.out
end Go.Proofs.Ytmcipciimnncmaa
