import Derived.Test.YtiflibkabmkloaaPeers
import Derived.Test.YtiflibkabmkloaaWorlds
import Derived.Test.YtiflibkabmkloaaWorldTo
/- Fetches as arguments: how large they are. -/
namespace Go.Proofs.Ytiflibkabmkloaa
open Go.RowKit
set_option maxRecDepth 100000 in
set_option maxHeartbeats 400000 in
theorem szPeer_any (a b c : Int) (s : ByteArray) (v : Value) (ts : List ByteArray) (L : Nat) (w : World) (hv : Reads w v ts) (hs : s.size ≤ maxLen) (hl : ts.length ≤ maxLen) (hsz : ∀ i, (tv ts i).size ≤ maxLen) (hL : L ≤ 1048576) :
    Calls Try.prog 37 #[.agg #[.int .i64 a, .int .i64 b, .int .i64 c, .string s, v], .int .i64 L] w fun e w' => ∃ r : Int, e = .returned (.int .i64 r) ∧ r ≤ L ∧ (0 ≤ r → s.size ≤ L ∧ ts.length ≤ L ∧ ∀ i, (tv ts i).size ≤ L) ∧ Below w.heap.size w w' := by
  unfold maxLen at hs
  have hA := (Below.refl w.heap.size w).alloc (Nat.le_refl _) (.cells #[.int .i64 a, .int .i64 b, .int .i64 c, .string s, v] 85)
  have HS := hid fun (K : Nat) (hK : K ≤ 1048576) => szStrs_any v ts K _ (hv.below hA) hl hsz hK
  have HA := hid hA
  obtain ⟨av, cv, rfl, _⟩ := hv.form
  clear hv hA hsz
  by_cases h1 : L < s.size
  · have h1' : (L : Int) - (s.size : Int) < 0 := by omega
    go_enter Try.func37, Try.ntmps37
    go_wp2
    go_ret
    exact ⟨-1, rfl, by omega, fun h => by omega, HA.out⟩
  · have h1' : ¬ ((L : Int) - (s.size : Int) < 0) := by omega
    have h2 : IntKind.i64.wrap ((L : Int) - (s.size : Int)) = ((L - s.size : Nat) : Int) := by rw [IntKind.wrap_i64]; omega
    have h3 : (L : Int) - (s.size : Int) = ((L - s.size : Nat) : Int) := by omega
    have HS1 := hid (HS.out (L - s.size) (by omega))
    rw [← h3] at HS1
    clear h2 h3
    go_enter Try.func37, Try.ntmps37
    go_wp2_with fail
    refine HS1.out.mono ?_
    rintro e w1 ⟨r, rfl, hr1, hr, rfl⟩
    have HR := hid hr
    clear hr
    by_cases h0 : r < 0
    · go_wp2
      go_ret
      exact ⟨-1, rfl, by omega, fun h => by omega, HA.out⟩
    · go_wp2
      go_ret
      exact ⟨r, rfl, by omega, fun h => ⟨by omega, by have := (HR.out h).1; omega, fun i => by have := (HR.out h).2 i; omega⟩, HA.out⟩
set_option maxRecDepth 100000 in
set_option maxHeartbeats 1000000 in
theorem szPeerS_any (v : Value) (ps : Prs) (L : Nat) (w : World) (hv : RdP w v ps) (hl : ps.length ≤ maxLen) (hf : PsFit maxLen ps) (hL : L ≤ 1048576) :
    Calls Try.prog 16 #[v, .int .i64 L] w fun e w' => ∃ r : Int, e = .returned (.int .i64 r) ∧ r ≤ L ∧ (0 ≤ r → ps.length ≤ L ∧ PsFit L ps) ∧ Below w.heap.size w w' := by
  unfold maxLen at hl
  obtain ⟨a, ca, rfl, hca⟩ := hv
  by_cases h1 : L < ps.length
  · have h1' : (L : Int) - (ps.length : Int) < 0 := by omega
    go_enter Try.func16, Try.ntmps16
    go_wp2
    go_ret
    exact ⟨-1, rfl, by omega, fun h => by omega, Below.refl _ _⟩
  · have h1' : ¬ ((L : Int) - (ps.length : Int) < 0) := by omega
    have HC := hid hca
    have HF := hid hf
    clear hca hf
    go_enter Try.func16, Try.ntmps16
    go_wp2
    go_loopw [1, 5] (fun l' i' wr => ∃ l i : Nat, i ≤ ps.length ∧ i' = .int .i64 i ∧ l' = .int .i64 l ∧ l ≤ L ∧ (∀ k, k < i → PrFits L (pat ps k)) ∧ Below w.heap.size w wr) (fun _ i' _ => ps.length - (intOf i').toNat)
    case atStart => exact ⟨L - ps.length, 0, Nat.zero_le _, rfl, by go_num, by omega, fun k hk => by omega, Below.refl _ _⟩
    case round =>
      obtain ⟨l, i, hi, rfl, rfl, hll, hs, hb⟩ := hrel
      have HS := hid hs
      clear hs
      by_cases hil : i < ps.length
      · obtain ⟨b, o, vn, rfl, h5⟩ := HC.out i hil
        have g5 := h5.below hb
        have hfi := HF.out i hil
        have HZI := hid fun W h => szPeer_any (pat ps i).lies (pat ps i).wait (pat ps i).last (pat ps i).asked vn (pat ps i).nots l W h hfi.asked hfi.nots hfi.each (by omega)
        obtain ⟨x0, x1, x2, x3, x4, x5, x6⟩ := g5
        have HX6 := hid x6
        obtain ⟨a4, c4, hvn, _⟩ := x6.form
        have hpf : Hid (∀ n, (pat ps i).asked.size ≤ n → (pat ps i).nots.length ≤ n → (∀ j, (tv (pat ps i).nots j).size ≤ n) → PrFits n (pat ps i)) := fun n a b c => ⟨a, b, c⟩
        have HB := hid hb
        generalize (pat ps i).lies = zl at *
        generalize (pat ps i).wait = zw at *
        generalize (pat ps i).last = zt at *
        generalize (pat ps i).asked = za at *
        generalize (pat ps i).nots = zn at *
        subst hvn
        clear h5 x6 hb hfi
        go_wp2_with fail
        refine (HZI.out _ HX6.out).mono ?_
        rintro e w1 ⟨r, rfl, hr1, hr, hb1⟩
        have hb2 := hid (HB.out.trans (hb1.mono HB.out.size))
        have HR := hid hr
        clear hb1 hr
        by_cases h0 : r < 0
        · go_wp2
          go_ret
          exact ⟨-1, rfl, by omega, fun h => by omega, hb2.out⟩
        · obtain ⟨l2, rfl⟩ := Int.eq_ofNat_of_zero_le (show 0 ≤ r by omega)
          go_wp2
          refine ⟨⟨l2, i + 1, by omega, by go_num, rfl, by omega, fun k hk => (Nat.lt_or_eq_of_le (Nat.le_of_lt_succ hk)).elim (HS.out k) (fun e => ?_), hb2.out⟩, by simp [intOf]; omega⟩
          have h9 := HR.out (by omega)
          subst e
          exact hpf.out L (by omega) (by omega) (fun j => by have := h9.2.2 j; omega)
      · obtain rfl : i = ps.length := by omega
        go_wp2
        go_ret
        exact ⟨_, rfl, by omega, fun _ => ⟨by omega, HS.out⟩, hb⟩
set_option maxRecDepth 100000 in
set_option maxHeartbeats 400000 in
theorem szStoreL_any (wd room : Int) (vi vp : Value) (its : Itms) (ts : List ByteArray) (K : Nat) (w : World) (hi : RdI w vi its) (hp : Reads w vp ts) (hli : its.length ≤ maxLen) (hlp : ts.length ≤ maxLen) (hsi : ∀ i, (itx its i).size ≤ maxLen) (hsp : ∀ i, (tv ts i).size ≤ maxLen) (hK : K ≤ 1048576) :
    Calls Try.prog 15 #[.agg #[.int .i64 wd, .int .i64 room, vi, vp], .int .i64 K] w fun e w' => ∃ r : Int, e = .returned (.int .i64 r) ∧ r ≤ K ∧ (0 ≤ r → its.length ≤ K ∧ (∀ i, (itx its i).size ≤ K) ∧ ts.length ≤ K ∧ ∀ i, (tv ts i).size ≤ K) ∧ Below w.heap.size w w' := by
  have hA := (Below.refl w.heap.size w).alloc (Nat.le_refl _) (.cells #[.int .i64 wd, .int .i64 room, vi, vp] 25)
  have HI := hid (szItemS_any vi its K _ (hi.below hA) hli hsi hK)
  have HP := hid fun (L : Nat) (hL : L ≤ 1048576) W h => szStrs_any vp ts L W h hlp hsp hL
  have HRP := hid (hp.below hA)
  have HN := hid (Blk.new w 25 #[.int .i64 wd, .int .i64 room, vi, vp])
  have HA := hid hA
  obtain ⟨ai, ci, rfl, _⟩ := hi
  obtain ⟨ap, cp, rfl, _⟩ := hp.form
  clear hp hsi hsp hA
  go_enter Try.func15, Try.ntmps15
  go_wp2_with fail
  refine HI.out.mono ?_
  rintro e w1 ⟨r, rfl, hr1, hr, hb1⟩
  have B1 := HA.out.trans (hb1.mono (by simp))
  by_cases h0 : r < 0
  · clear hr
    have HB := hid B1
    clear hb1 B1
    go_wp2
    go_ret
    exact ⟨-1, rfl, by omega, fun h => by omega, HB.out⟩
  · obtain ⟨hl1, hs1⟩ := hr (by omega)
    obtain ⟨L, rfl⟩ := Int.eq_ofNat_of_zero_le (show 0 ≤ r by omega)
    have HP1 := hid (HP.out L (by omega) w1 (HRP.out.below hb1))
    have N1 := HN.out.below hb1
    have c3 : w1.cell? ⟨w.heap.size, 3, none⟩ = some (.slice ap ts.length cp) := N1.cell 3
    have HB := hid B1
    have HL1 := hid hl1
    have HS1 := hid hs1
    clear hb1 B1 hr hl1 hs1 N1
    go_wp2_with fail
    refine HP1.out.mono ?_
    rintro e w2 ⟨r2, rfl, hr2, hrr, rfl⟩
    have HRR := hid hrr
    clear hrr
    by_cases h2 : r2 < 0
    · go_wp2
      go_ret
      exact ⟨-1, rfl, by omega, fun h => by omega, HB.out⟩
    · go_wp2
      go_ret
      exact ⟨r2, rfl, by omega, fun h => ⟨HL1.out, HS1.out, Nat.le_trans (HRR.out h).1 (by omega), fun i => Nat.le_trans ((HRR.out h).2 i) (by omega)⟩, HB.out⟩
set_option maxRecDepth 100000 in
set_option maxHeartbeats 1000000 in
theorem szFetch_any (nm : ByteArray) (now : Int) (full : Bool) (wd room : Int) (vi vp vq : Value) (its : Itms) (ts : List ByteArray) (ps : Prs) (w : World) (hi : RdI w vi its) (hp : Reads w vp ts) (hq : RdP w vq ps) (hnm : nm.size ≤ maxLen) (hli : its.length ≤ maxLen) (hlp : ts.length ≤ maxLen) (hlq : ps.length ≤ maxLen) (hsi : ∀ i, (itx its i).size ≤ maxLen) (hsp : ∀ i, (tv ts i).size ≤ maxLen) (hf : PsFit maxLen ps) :
    Calls Try.prog 5 #[fval nm now full wd room vi vp vq, .int .i64 1048576] w fun e w' => ∃ r : Int, e = .returned (.int .i64 r) ∧ (0 ≤ r → nm.size ≤ 1048576 ∧ its.length ≤ 1048576 ∧ (∀ i, (itx its i).size ≤ 1048576) ∧ ts.length ≤ 1048576 ∧ (∀ i, (tv ts i).size ≤ 1048576) ∧ ps.length ≤ 1048576 ∧ PsFit 1048576 ps) ∧ Below w.heap.size w w' := by
  unfold maxLen at hnm
  have hA := (Below.refl w.heap.size w).alloc (Nat.le_refl _) (.cells (fcells nm now full wd room vi vp vq) 28)
  have HS := hid fun (K : Nat) (hK : K ≤ 1048576) => szStoreL_any wd room vi vp its ts K _ (hi.below hA) (hp.below hA) hli hlp hsi hsp hK
  have HP := hid fun (K : Nat) (hK : K ≤ 1048576) W h => szPeerS_any vq ps K W h hlq hf hK
  have HQ := hid (hq.below hA)
  have HN := hid (Blk.new w 28 (fcells nm now full wd room vi vp vq))
  have HA := hid hA
  obtain ⟨ai, ci, rfl, _⟩ := hi
  obtain ⟨ap, cp, rfl, _⟩ := hp.form
  obtain ⟨aq, cq, rfl, _⟩ := hq
  clear hp hsi hsp hA hf
  by_cases h1 : 1048576 < nm.size
  · have h1' : (1048576 : Int) - (nm.size : Int) < 0 := by omega
    go_enter Try.func5, Try.ntmps5
    go_wp2
    go_ret
    exact ⟨-1, rfl, fun h => by omega, HA.out⟩
  have h1' : ¬ ((1048576 : Int) - (nm.size : Int) < 0) := by omega
  have h3 : (1048576 : Int) - (nm.size : Int) = ((1048576 - nm.size : Nat) : Int) := by omega
  have HS1 := hid (HS.out (1048576 - nm.size) (by omega))
  rw [← h3] at HS1
  clear h3 HS
  go_enter Try.func5, Try.ntmps5
  go_wp2_with fail
  refine HS1.out.mono ?_
  rintro e w1 ⟨r, rfl, hr1, hr, hb1⟩
  have B1 := HA.out.trans (hb1.mono (by simp))
  have HR := hid hr
  by_cases h0 : r < 0
  · have HB := hid B1
    clear hb1 B1 hr
    go_wp2
    go_ret
    exact ⟨-1, rfl, fun h => by omega, HB.out⟩
  obtain ⟨L, rfl⟩ := Int.eq_ofNat_of_zero_le (show 0 ≤ r by omega)
  have HP1 := hid (HP.out L (by omega) w1 (HQ.out.below hb1))
  have N1 := HN.out.below hb1
  have c7 : w1.cell? ⟨w.heap.size, 7, none⟩ = some (.slice aq ps.length cq) := N1.cell 7
  have HB := hid B1
  clear hb1 B1 hr N1
  go_wp2_with fail
  refine HP1.out.mono ?_
  rintro e w2 ⟨r2, rfl, hr2, hrr, hb2⟩
  have HRR := hid hrr
  have HB2 := hid (HB.out.trans (hb2.mono HB.out.size))
  clear hrr hb2
  by_cases h2 : r2 < 0
  · go_wp2
    go_ret
    exact ⟨-1, rfl, fun h => by omega, HB2.out⟩
  · go_wp2
    go_ret
    refine ⟨r2, rfl, fun h => ?_, HB2.out⟩
    have g := HR.out (by omega)
    have k := HRR.out h
    exact ⟨by omega, by omega, fun i => by have := g.2.1 i; omega, by omega, fun i => by have := g.2.2.2 i; omega, by omega, fun i hi => ⟨Nat.le_trans (k.2 i hi).asked (by omega), Nat.le_trans (k.2 i hi).nots (by omega), fun j => Nat.le_trans ((k.2 i hi).each j) (by omega)⟩⟩
end Go.Proofs.Ytiflibkabmkloaa
/- Worlds as arguments: how large they are. -/
namespace Go.Proofs.Ytiflibkabmkloaa
open Go.RowKit
set_option maxRecDepth 100000 in
set_option maxHeartbeats 1000000 in
theorem szFetchL_any (nm : ByteArray) (now : Int) (full : Bool) (wd room : Int) (vi vp vq : Value) (its : Itms) (ts : List ByteArray) (ps : Prs) (w : World) (hi : RdI w vi its) (hp : Reads w vp ts) (hq : RdP w vq ps) (hnm : nm.size ≤ maxLen) (hli : its.length ≤ maxLen) (hlp : ts.length ≤ maxLen) (hlq : ps.length ≤ maxLen) (hsi : ∀ i, (itx its i).size ≤ maxLen) (hsp : ∀ i, (tv ts i).size ≤ maxLen) (hf : PsFit maxLen ps) :
    Calls Try.prog 5 #[fval nm now full wd room vi vp vq, .int .i64 1048576] w fun e w' => ∃ r : Int, e = .returned (.int .i64 r) ∧ r ≤ 1048576 ∧ (0 ≤ r → nm.size ≤ 1048576 ∧ its.length ≤ 1048576 ∧ (∀ i, (itx its i).size ≤ 1048576) ∧ ts.length ≤ 1048576 ∧ (∀ i, (tv ts i).size ≤ 1048576) ∧ ps.length ≤ 1048576 ∧ PsFit 1048576 ps) ∧ Below w.heap.size w w' := by
  unfold maxLen at hnm
  have hA := (Below.refl w.heap.size w).alloc (Nat.le_refl _) (.cells (fcells nm now full wd room vi vp vq) 28)
  have HS := hid fun (K : Nat) (hK : K ≤ 1048576) => szStoreL_any wd room vi vp its ts K _ (hi.below hA) (hp.below hA) hli hlp hsi hsp hK
  have HP := hid fun (K : Nat) (hK : K ≤ 1048576) W h => szPeerS_any vq ps K W h hlq hf hK
  have HQ := hid (hq.below hA)
  have HN := hid (Blk.new w 28 (fcells nm now full wd room vi vp vq))
  have HA := hid hA
  obtain ⟨ai, ci, rfl, _⟩ := hi
  obtain ⟨ap, cp, rfl, _⟩ := hp.form
  obtain ⟨aq, cq, rfl, _⟩ := hq
  clear hp hsi hsp hA hf
  by_cases h1 : 1048576 < nm.size
  · have h1' : (1048576 : Int) - (nm.size : Int) < 0 := by omega
    go_enter Try.func5, Try.ntmps5
    go_wp2
    go_ret
    exact ⟨-1, rfl, by omega, fun h => by omega, HA.out⟩
  have h1' : ¬ ((1048576 : Int) - (nm.size : Int) < 0) := by omega
  have h3 : (1048576 : Int) - (nm.size : Int) = ((1048576 - nm.size : Nat) : Int) := by omega
  have HS1 := hid (HS.out (1048576 - nm.size) (by omega))
  rw [← h3] at HS1
  clear h3 HS
  go_enter Try.func5, Try.ntmps5
  go_wp2_with fail
  refine HS1.out.mono ?_
  rintro e w1 ⟨r, rfl, hr1, hr, hb1⟩
  have B1 := HA.out.trans (hb1.mono (by simp))
  have HR := hid hr
  by_cases h0 : r < 0
  · have HB := hid B1
    clear hb1 B1 hr
    go_wp2
    go_ret
    exact ⟨-1, rfl, by omega, fun h => by omega, HB.out⟩
  obtain ⟨L, rfl⟩ := Int.eq_ofNat_of_zero_le (show 0 ≤ r by omega)
  have HP1 := hid (HP.out L (by omega) w1 (HQ.out.below hb1))
  have N1 := HN.out.below hb1
  have c7 : w1.cell? ⟨w.heap.size, 7, none⟩ = some (.slice aq ps.length cq) := N1.cell 7
  have HB := hid B1
  clear hb1 B1 hr N1
  go_wp2_with fail
  refine HP1.out.mono ?_
  rintro e w2 ⟨r2, rfl, hr2, hrr, hb2⟩
  have HRR := hid hrr
  have HB2 := hid (HB.out.trans (hb2.mono HB.out.size))
  clear hrr hb2
  by_cases h2 : r2 < 0
  · go_wp2
    go_ret
    exact ⟨-1, rfl, by omega, fun h => by omega, HB2.out⟩
  · go_wp2
    go_ret
    refine ⟨r2, rfl, by omega, fun h => ?_, HB2.out⟩
    have g := HR.out (by omega)
    have k := HRR.out h
    exact ⟨by omega, by omega, fun i => by have := g.2.1 i; omega, by omega, fun i => by have := g.2.2.2 i; omega, by omega, fun i hi => ⟨Nat.le_trans (k.2 i hi).asked (by omega), Nat.le_trans (k.2 i hi).nots (by omega), fun j => Nat.le_trans ((k.2 i hi).each j) (by omega)⟩⟩
set_option maxRecDepth 100000 in
set_option maxHeartbeats 400000 in
theorem szBoolS_any (a : Option Addr) (n ca L : Nat) (w : World) (hl : n ≤ maxLen) (hL : L ≤ 1048576) :
    Calls Try.prog 25 #[.slice a n ca, .int .i64 L] w fun e w' => ∃ r : Int, e = .returned (.int .i64 r) ∧ r ≤ L ∧ (0 ≤ r → n ≤ L) ∧ w' = w := by
  unfold maxLen at hl
  by_cases h1 : L < n
  · have h1' : (L : Int) - (n : Int) < 0 := by omega
    go_enter Try.func25, Try.ntmps25
    go_wp2
    go_ret
    exact ⟨-1, rfl, by omega, fun h => by omega, rfl⟩
  · have h1' : ¬ ((L : Int) - (n : Int) < 0) := by omega
    go_enter Try.func25, Try.ntmps25
    go_wp2
    go_ret
    exact ⟨_, rfl, by omega, fun h => by omega, rfl⟩
set_option maxRecDepth 100000 in
set_option maxHeartbeats 400000 in
theorem szMessage_any (a b : Int) (s : ByteArray) (h : Bool) (x : ByteArray) (L : Nat) (w : World) (hs : s.size ≤ maxLen) (hx : x.size ≤ maxLen) (hL : L ≤ 1048576) :
    Calls Try.prog 53 #[.agg #[.int .i64 a, .int .i64 b, .string s, .bool h, .string x], .int .i64 L] w fun e w' => ∃ r : Int, e = .returned (.int .i64 r) ∧ r ≤ L ∧ (0 ≤ r → s.size ≤ L ∧ x.size ≤ L) ∧ Below w.heap.size w w' := by
  unfold maxLen at hs hx
  have HA := hid ((Below.refl w.heap.size w).alloc (Nat.le_refl _) (.cells #[.int .i64 a, .int .i64 b, .string s, .bool h, .string x] 110))
  by_cases h1 : L < s.size
  · have h1' : (L : Int) - (s.size : Int) < 0 := by omega
    go_enter Try.func53, Try.ntmps53
    go_wp2
    go_ret
    exact ⟨-1, rfl, by omega, fun h => by omega, HA.out⟩
  have h1' : ¬ ((L : Int) - (s.size : Int) < 0) := by omega
  by_cases h2 : L - s.size < x.size
  · have h2' : (L : Int) - (s.size : Int) - (x.size : Int) < 0 := by omega
    go_enter Try.func53, Try.ntmps53
    go_wp2
    go_ret
    exact ⟨-1, rfl, by omega, fun h => by omega, HA.out⟩
  have h2' : ¬ ((L : Int) - (s.size : Int) - (x.size : Int) < 0) := by omega
  go_enter Try.func53, Try.ntmps53
  go_wp2
  go_ret
  exact ⟨_, rfl, by omega, fun h => by omega, HA.out⟩
set_option maxRecDepth 100000 in
set_option maxHeartbeats 1000000 in
theorem szMessageS_any (v : Value) (ms : Mgs) (L : Nat) (w : World) (hv : RdM w v ms) (hl : ms.length ≤ maxLen) (hf : MsFit maxLen ms) (hL : L ≤ 1048576) :
    Calls Try.prog 27 #[v, .int .i64 L] w fun e w' => ∃ r : Int, e = .returned (.int .i64 r) ∧ r ≤ L ∧ (0 ≤ r → ms.length ≤ L ∧ MsFit L ms) ∧ Below w.heap.size w w' := by
  unfold maxLen at hl
  obtain ⟨a, ca, rfl, hca⟩ := hv
  by_cases h1 : L < ms.length
  · have h1' : (L : Int) - (ms.length : Int) < 0 := by omega
    go_enter Try.func27, Try.ntmps27
    go_wp2
    go_ret
    exact ⟨-1, rfl, by omega, fun h => by omega, Below.refl _ _⟩
  · have h1' : ¬ ((L : Int) - (ms.length : Int) < 0) := by omega
    have HC := hid hca
    have HF := hid hf
    clear hca hf
    go_enter Try.func27, Try.ntmps27
    go_wp2
    go_loopw [1, 5] (fun l' i' wr => ∃ l i : Nat, i ≤ ms.length ∧ i' = .int .i64 i ∧ l' = .int .i64 l ∧ l ≤ L ∧ (∀ k, k < i → MgFits L (mat ms k)) ∧ Below w.heap.size w wr) (fun _ i' _ => ms.length - (intOf i').toNat)
    case atStart => exact ⟨L - ms.length, 0, Nat.zero_le _, rfl, by go_num, by omega, fun k hk => by omega, Below.refl _ _⟩
    case round =>
      obtain ⟨l, i, hi, rfl, rfl, hll, hs, hb⟩ := hrel
      have HS := hid hs
      clear hs
      by_cases hil : i < ms.length
      · obtain ⟨b, o, rfl, h5⟩ := HC.out i hil
        have g5 := h5.below hb
        have hfi := HF.out i hil
        have HZI := hid fun W => szMessage_any (mat ms i).fr (mat ms i).to (mat ms i).sum (mat ms i).has (mat ms i).text l W hfi.sum hfi.text (by omega)
        obtain ⟨x0, x1, x2, x3, x4, x5⟩ := g5
        have hpf : Hid (∀ n, (mat ms i).sum.size ≤ n → (mat ms i).text.size ≤ n → MgFits n (mat ms i)) := fun n a b => ⟨a, b⟩
        have HB := hid hb
        generalize (mat ms i).fr = zfr at *
        generalize (mat ms i).to = zto at *
        generalize (mat ms i).sum = zsum at *
        generalize (mat ms i).has = zhas at *
        generalize (mat ms i).text = ztext at *
        clear h5 hb hfi
        go_wp2_with fail
        refine (HZI.out _).mono ?_
        rintro e w1 ⟨r, rfl, hr1, hr, hb1⟩
        have hb2 := hid (HB.out.trans (hb1.mono HB.out.size))
        have HR := hid hr
        clear hb1 hr
        by_cases h0 : r < 0
        · go_wp2
          go_ret
          exact ⟨-1, rfl, by omega, fun h => by omega, hb2.out⟩
        · obtain ⟨l2, rfl⟩ := Int.eq_ofNat_of_zero_le (show 0 ≤ r by omega)
          go_wp2
          refine ⟨⟨l2, i + 1, by omega, by go_num, rfl, by omega, fun k hk => (Nat.lt_or_eq_of_le (Nat.le_of_lt_succ hk)).elim (HS.out k) (fun e => ?_), hb2.out⟩, by simp [intOf]; omega⟩
          have h9 := HR.out (by omega)
          subst e
          exact hpf.out L (by omega) (by omega)
      · obtain rfl : i = ms.length := by omega
        go_wp2
        go_ret
        exact ⟨_, rfl, by omega, fun _ => ⟨by omega, HS.out⟩, hb⟩
set_option maxRecDepth 100000 in
set_option maxHeartbeats 1000000 in
theorem szStoreS_any (v : Value) (ss : Srs) (L : Nat) (w : World) (hv : RdS w v ss) (hl : ss.length ≤ maxLen) (hf : SsFit maxLen ss) (hL : L ≤ 1048576) :
    Calls Try.prog 26 #[v, .int .i64 L] w fun e w' => ∃ r : Int, e = .returned (.int .i64 r) ∧ r ≤ L ∧ (0 ≤ r → ss.length ≤ L ∧ SsFit L ss) ∧ Below w.heap.size w w' := by
  unfold maxLen at hl
  obtain ⟨a, ca, rfl, hca⟩ := hv
  by_cases h1 : L < ss.length
  · have h1' : (L : Int) - (ss.length : Int) < 0 := by omega
    go_enter Try.func26, Try.ntmps26
    go_wp2
    go_ret
    exact ⟨-1, rfl, by omega, fun h => by omega, Below.refl _ _⟩
  · have h1' : ¬ ((L : Int) - (ss.length : Int) < 0) := by omega
    have HC := hid hca
    have HF := hid hf
    clear hca hf
    go_enter Try.func26, Try.ntmps26
    go_wp2
    go_loopw [1, 5] (fun l' i' wr => ∃ l i : Nat, i ≤ ss.length ∧ i' = .int .i64 i ∧ l' = .int .i64 l ∧ l ≤ L ∧ (∀ k, k < i → SrFits L (sat ss k)) ∧ Below w.heap.size w wr) (fun _ i' _ => ss.length - (intOf i').toNat)
    case atStart => exact ⟨L - ss.length, 0, Nat.zero_le _, rfl, by go_num, by omega, fun k hk => by omega, Below.refl _ _⟩
    case round =>
      obtain ⟨l, i, hi, rfl, rfl, hll, hs, hb⟩ := hrel
      have HS := hid hs
      clear hs
      by_cases hil : i < ss.length
      · obtain ⟨b, o, vi, vp, rfl, h5⟩ := HC.out i hil
        have g5 := h5.below hb
        have hfi := HF.out i hil
        have HZI := hid fun W h k => szStoreL_any (sat ss i).wd (sat ss i).room vi vp (sat ss i).its (sat ss i).ts l W h k hfi.its hfi.ts hfi.each hfi.tach (by omega)
        obtain ⟨x0, x1, x2, x3, x4, x5, x6⟩ := g5
        have HX5 := hid x5
        have HX6 := hid x6
        obtain ⟨a4, c4, hvi, _⟩ := id x5
        obtain ⟨a6, c6, hvp, _⟩ := x6.form
        have hpf : Hid (∀ n, (sat ss i).its.length ≤ n → (∀ j, (itx (sat ss i).its j).size ≤ n) → (sat ss i).ts.length ≤ n → (∀ j, (tv (sat ss i).ts j).size ≤ n) → SrFits n (sat ss i)) := fun n a b c d => ⟨a, b, c, d⟩
        have HB := hid hb
        generalize (sat ss i).wd = zwd at *
        generalize (sat ss i).room = zroom at *
        generalize (sat ss i).its = zits at *
        generalize (sat ss i).ts = zts at *
        subst hvi hvp
        clear h5 hb hfi x5 x6
        go_wp2_with fail
        refine (HZI.out _ HX5.out HX6.out).mono ?_
        rintro e w1 ⟨r, rfl, hr1, hr, hb1⟩
        have hb2 := hid (HB.out.trans (hb1.mono HB.out.size))
        have HR := hid hr
        clear hb1 hr
        by_cases h0 : r < 0
        · go_wp2
          go_ret
          exact ⟨-1, rfl, by omega, fun h => by omega, hb2.out⟩
        · obtain ⟨l2, rfl⟩ := Int.eq_ofNat_of_zero_le (show 0 ≤ r by omega)
          go_wp2
          refine ⟨⟨l2, i + 1, by omega, by go_num, rfl, by omega, fun k hk => (Nat.lt_or_eq_of_le (Nat.le_of_lt_succ hk)).elim (HS.out k) (fun e => ?_), hb2.out⟩, by simp [intOf]; omega⟩
          have h9 := HR.out (by omega)
          subst e
          exact hpf.out L (by omega) (fun j => by have := h9.2.1 j; omega) (by omega) (fun j => by have := h9.2.2.2 j; omega)
      · obtain rfl : i = ss.length := by omega
        go_wp2
        go_ret
        exact ⟨_, rfl, by omega, fun _ => ⟨by omega, HS.out⟩, hb⟩
set_option maxRecDepth 100000 in
set_option maxHeartbeats 2000000 in
theorem szWorld_any (x : Wd) (vi vp vq vu vs vm : Value) (w : World) (h : RdW w vi vp vq vu vs vm x) (hf : WFits maxLen x) :
    Calls Try.prog 10 #[wval x.nm x.now x.full x.wd x.room vi vp vq vu vs vm x.wst, .int .i64 1048576] w fun e w' => ∃ r : Int, e = .returned (.int .i64 r) ∧ (0 ≤ r → WFits 1048576 x) ∧ Below w.heap.size w w' := by
  obtain ⟨nm, now, full, wd, room, its, ts, ps, bs, ss, ms, wst⟩ := x
  obtain ⟨hi, hp, hq, hu, hs, hm⟩ := h
  obtain ⟨f0, f1, f2, f3, f4, f5, f6, f7, f8, f9, f10, f11⟩ := hf
  dsimp only at *
  obtain ⟨ai, ci, rfl, _⟩ := id hi
  obtain ⟨ap, cp, rfl, _⟩ := hp.form
  obtain ⟨aq, cq, rfl, _⟩ := id hq
  obtain ⟨au, cu, rfl, _⟩ := id hu
  obtain ⟨ax, cx, rfl, _⟩ := id hs
  obtain ⟨am, cm, rfl, _⟩ := id hm
  have hA := (Below.refl w.heap.size w).alloc (Nat.le_refl _) (.cells #[.string nm, .int .i64 now, .bool full, .int .i64 wd, .int .i64 room, .slice ai its.length ci, .slice ap ts.length cp, .slice aq ps.length cq, .slice au bs.length cu, .slice ax ss.length cx, .slice am ms.length cm, .int .i64 wst] 44)
  have HF := hid (szFetchL_any nm now full wd room _ _ _ its ts ps _ (hi.below hA) (hp.below hA) (hq.below hA) f0 f1 f3 f5 f2 f4 f6)
  have HU := hid fun (L : Nat) (hL : L ≤ 1048576) W => szBoolS_any au bs.length cu L W f7 hL
  have HS := hid fun (L : Nat) (hL : L ≤ 1048576) W k => szStoreS_any (.slice ax ss.length cx) ss L W k f8 f9 hL
  have HM := hid fun (L : Nat) (hL : L ≤ 1048576) W k => szMessageS_any (.slice am ms.length cm) ms L W k f10 f11 hL
  have HN := hid (Blk.new w 44 #[.string nm, .int .i64 now, .bool full, .int .i64 wd, .int .i64 room, .slice ai its.length ci, .slice ap ts.length cp, .slice aq ps.length cq, .slice au bs.length cu, .slice ax ss.length cx, .slice am ms.length cm, .int .i64 wst])
  have HRS := hid (hs.below hA)
  have HRM := hid (hm.below hA)
  have HA := hid hA
  clear hi hp hq hu hs hm hA f0 f1 f2 f3 f4 f5 f6 f7 f8 f9 f10 f11
  go_enter Try.func10, Try.ntmps10
  go_wp2_with fail
  refine HF.out.mono ?_
  rintro e w1 ⟨r1, rfl, hr1, hr, hb1⟩
  have HR := hid hr
  have HB1 := hid hb1
  have hB1 := hid (HA.out.trans (hb1.mono (by simp)))
  clear hr hb1
  by_cases h0 : r1 < 0
  · go_wp2
    go_ret
    exact ⟨-1, rfl, fun h => by omega, hB1.out⟩
  obtain ⟨l1, rfl⟩ := Int.eq_ofNat_of_zero_le (show 0 ≤ r1 by omega)
  have HU1 := hid (HU.out l1 (by omega) w1)
  have c8 : w1.cell? ⟨w.heap.size, 8, none⟩ = some (.slice au bs.length cu) := (HN.out.below HB1.out).cell 8
  have c9 : w1.cell? ⟨w.heap.size, 9, none⟩ = some (.slice ax ss.length cx) := (HN.out.below HB1.out).cell 9
  go_wp2_with fail
  refine HU1.out.mono ?_
  rintro e w2 ⟨r2, rfl, hr2, hru, rfl⟩
  have HRU := hid hru
  clear hru
  by_cases h2 : r2 < 0
  · go_wp2
    go_ret
    exact ⟨-1, rfl, fun h => by omega, hB1.out⟩
  obtain ⟨l2, rfl⟩ := Int.eq_ofNat_of_zero_le (show 0 ≤ r2 by omega)
  have HS1 := hid (HS.out l2 (by omega) w2 (HRS.out.below HB1.out))
  go_wp2_with fail
  refine HS1.out.mono ?_
  rintro e w3 ⟨r3, rfl, hr3, hrs, hb3⟩
  have HRS2 := hid hrs
  have B3 := HB1.out.trans (hb3.mono HB1.out.size)
  have HB3 := hid B3
  have hB3 := hid (HA.out.trans (B3.mono (by simp)))
  have c10 : w3.cell? ⟨w.heap.size, 10, none⟩ = some (.slice am ms.length cm) := (HN.out.below B3).cell 10
  clear hrs c8 c9 hb3 B3
  by_cases h3 : r3 < 0
  · go_wp2
    go_ret
    exact ⟨-1, rfl, fun h => by omega, hB3.out⟩
  obtain ⟨l3, rfl⟩ := Int.eq_ofNat_of_zero_le (show 0 ≤ r3 by omega)
  have HM1 := hid (HM.out l3 (by omega) w3 (HRM.out.below HB3.out))
  go_wp2_with fail
  refine HM1.out.mono ?_
  rintro e w4 ⟨r4, rfl, hr4, hrm, hb4⟩
  have HRM2 := hid hrm
  have hB4 := hid (hB3.out.trans (hb4.mono hB3.out.size))
  clear hrm hb4
  by_cases h4 : r4 < 0
  · go_wp2
    go_ret
    exact ⟨-1, rfl, fun h => by omega, hB4.out⟩
  go_wp2
  go_ret
  refine ⟨r4, rfl, fun h => ?_, hB4.out⟩
  obtain ⟨g0, g1, g2, g3, g4, g5, g6⟩ := HR.out (by omega)
  have gu := HRU.out (by omega)
  obtain ⟨gs, gt⟩ := HRS2.out (by omega)
  obtain ⟨gm, gn⟩ := HRM2.out (by omega)
  exact ⟨g0, g1, g2, g3, g4, g5, g6, by dsimp only; omega, by dsimp only; omega, fun i hi => ⟨Nat.le_trans (gt i hi).its (by omega), fun j => Nat.le_trans ((gt i hi).each j) (by omega), Nat.le_trans (gt i hi).ts (by omega), fun j => Nat.le_trans ((gt i hi).tach j) (by omega)⟩, by dsimp only; omega, fun i hi => ⟨Nat.le_trans (gn i hi).sum (by omega), Nat.le_trans (gn i hi).text (by omega)⟩⟩
end Go.Proofs.Ytiflibkabmkloaa
/- Copies of worlds. -/
namespace Go.Proofs.Ytiflibkabmkloaa
open Go.RowKit
/-- A block of 12 cells, all of them stored anew. -/
structure Store12 (u : World) (b : Nat) (c0 c1 c2 c3 c4 c5 c6 c7 c8 c9 c10 c11 d0 d1 d2 d3 d4 d5 d6 d7 d8 d9 d10 d11 : Value) : Prop where
  a0 : u.cell? ⟨b, 0, none⟩ = some c0
  f0 : u.frozen? ⟨b, 0, none⟩ = false
  a1 : (u.setCell ⟨b, 0, none⟩ d0).cell? ⟨b, 1, none⟩ = some c1
  f1 : (u.setCell ⟨b, 0, none⟩ d0).frozen? ⟨b, 1, none⟩ = false
  a2 : ((u.setCell ⟨b, 0, none⟩ d0).setCell ⟨b, 1, none⟩ d1).cell? ⟨b, 2, none⟩ = some c2
  f2 : ((u.setCell ⟨b, 0, none⟩ d0).setCell ⟨b, 1, none⟩ d1).frozen? ⟨b, 2, none⟩ = false
  a3 : (((u.setCell ⟨b, 0, none⟩ d0).setCell ⟨b, 1, none⟩ d1).setCell ⟨b, 2, none⟩ d2).cell? ⟨b, 3, none⟩ = some c3
  f3 : (((u.setCell ⟨b, 0, none⟩ d0).setCell ⟨b, 1, none⟩ d1).setCell ⟨b, 2, none⟩ d2).frozen? ⟨b, 3, none⟩ = false
  a4 : ((((u.setCell ⟨b, 0, none⟩ d0).setCell ⟨b, 1, none⟩ d1).setCell ⟨b, 2, none⟩ d2).setCell ⟨b, 3, none⟩ d3).cell? ⟨b, 4, none⟩ = some c4
  f4 : ((((u.setCell ⟨b, 0, none⟩ d0).setCell ⟨b, 1, none⟩ d1).setCell ⟨b, 2, none⟩ d2).setCell ⟨b, 3, none⟩ d3).frozen? ⟨b, 4, none⟩ = false
  a5 : (((((u.setCell ⟨b, 0, none⟩ d0).setCell ⟨b, 1, none⟩ d1).setCell ⟨b, 2, none⟩ d2).setCell ⟨b, 3, none⟩ d3).setCell ⟨b, 4, none⟩ d4).cell? ⟨b, 5, none⟩ = some c5
  f5 : (((((u.setCell ⟨b, 0, none⟩ d0).setCell ⟨b, 1, none⟩ d1).setCell ⟨b, 2, none⟩ d2).setCell ⟨b, 3, none⟩ d3).setCell ⟨b, 4, none⟩ d4).frozen? ⟨b, 5, none⟩ = false
  a6 : ((((((u.setCell ⟨b, 0, none⟩ d0).setCell ⟨b, 1, none⟩ d1).setCell ⟨b, 2, none⟩ d2).setCell ⟨b, 3, none⟩ d3).setCell ⟨b, 4, none⟩ d4).setCell ⟨b, 5, none⟩ d5).cell? ⟨b, 6, none⟩ = some c6
  f6 : ((((((u.setCell ⟨b, 0, none⟩ d0).setCell ⟨b, 1, none⟩ d1).setCell ⟨b, 2, none⟩ d2).setCell ⟨b, 3, none⟩ d3).setCell ⟨b, 4, none⟩ d4).setCell ⟨b, 5, none⟩ d5).frozen? ⟨b, 6, none⟩ = false
  a7 : (((((((u.setCell ⟨b, 0, none⟩ d0).setCell ⟨b, 1, none⟩ d1).setCell ⟨b, 2, none⟩ d2).setCell ⟨b, 3, none⟩ d3).setCell ⟨b, 4, none⟩ d4).setCell ⟨b, 5, none⟩ d5).setCell ⟨b, 6, none⟩ d6).cell? ⟨b, 7, none⟩ = some c7
  f7 : (((((((u.setCell ⟨b, 0, none⟩ d0).setCell ⟨b, 1, none⟩ d1).setCell ⟨b, 2, none⟩ d2).setCell ⟨b, 3, none⟩ d3).setCell ⟨b, 4, none⟩ d4).setCell ⟨b, 5, none⟩ d5).setCell ⟨b, 6, none⟩ d6).frozen? ⟨b, 7, none⟩ = false
  a8 : ((((((((u.setCell ⟨b, 0, none⟩ d0).setCell ⟨b, 1, none⟩ d1).setCell ⟨b, 2, none⟩ d2).setCell ⟨b, 3, none⟩ d3).setCell ⟨b, 4, none⟩ d4).setCell ⟨b, 5, none⟩ d5).setCell ⟨b, 6, none⟩ d6).setCell ⟨b, 7, none⟩ d7).cell? ⟨b, 8, none⟩ = some c8
  f8 : ((((((((u.setCell ⟨b, 0, none⟩ d0).setCell ⟨b, 1, none⟩ d1).setCell ⟨b, 2, none⟩ d2).setCell ⟨b, 3, none⟩ d3).setCell ⟨b, 4, none⟩ d4).setCell ⟨b, 5, none⟩ d5).setCell ⟨b, 6, none⟩ d6).setCell ⟨b, 7, none⟩ d7).frozen? ⟨b, 8, none⟩ = false
  a9 : (((((((((u.setCell ⟨b, 0, none⟩ d0).setCell ⟨b, 1, none⟩ d1).setCell ⟨b, 2, none⟩ d2).setCell ⟨b, 3, none⟩ d3).setCell ⟨b, 4, none⟩ d4).setCell ⟨b, 5, none⟩ d5).setCell ⟨b, 6, none⟩ d6).setCell ⟨b, 7, none⟩ d7).setCell ⟨b, 8, none⟩ d8).cell? ⟨b, 9, none⟩ = some c9
  f9 : (((((((((u.setCell ⟨b, 0, none⟩ d0).setCell ⟨b, 1, none⟩ d1).setCell ⟨b, 2, none⟩ d2).setCell ⟨b, 3, none⟩ d3).setCell ⟨b, 4, none⟩ d4).setCell ⟨b, 5, none⟩ d5).setCell ⟨b, 6, none⟩ d6).setCell ⟨b, 7, none⟩ d7).setCell ⟨b, 8, none⟩ d8).frozen? ⟨b, 9, none⟩ = false
  a10 : ((((((((((u.setCell ⟨b, 0, none⟩ d0).setCell ⟨b, 1, none⟩ d1).setCell ⟨b, 2, none⟩ d2).setCell ⟨b, 3, none⟩ d3).setCell ⟨b, 4, none⟩ d4).setCell ⟨b, 5, none⟩ d5).setCell ⟨b, 6, none⟩ d6).setCell ⟨b, 7, none⟩ d7).setCell ⟨b, 8, none⟩ d8).setCell ⟨b, 9, none⟩ d9).cell? ⟨b, 10, none⟩ = some c10
  f10 : ((((((((((u.setCell ⟨b, 0, none⟩ d0).setCell ⟨b, 1, none⟩ d1).setCell ⟨b, 2, none⟩ d2).setCell ⟨b, 3, none⟩ d3).setCell ⟨b, 4, none⟩ d4).setCell ⟨b, 5, none⟩ d5).setCell ⟨b, 6, none⟩ d6).setCell ⟨b, 7, none⟩ d7).setCell ⟨b, 8, none⟩ d8).setCell ⟨b, 9, none⟩ d9).frozen? ⟨b, 10, none⟩ = false
  a11 : (((((((((((u.setCell ⟨b, 0, none⟩ d0).setCell ⟨b, 1, none⟩ d1).setCell ⟨b, 2, none⟩ d2).setCell ⟨b, 3, none⟩ d3).setCell ⟨b, 4, none⟩ d4).setCell ⟨b, 5, none⟩ d5).setCell ⟨b, 6, none⟩ d6).setCell ⟨b, 7, none⟩ d7).setCell ⟨b, 8, none⟩ d8).setCell ⟨b, 9, none⟩ d9).setCell ⟨b, 10, none⟩ d10).cell? ⟨b, 11, none⟩ = some c11
  f11 : (((((((((((u.setCell ⟨b, 0, none⟩ d0).setCell ⟨b, 1, none⟩ d1).setCell ⟨b, 2, none⟩ d2).setCell ⟨b, 3, none⟩ d3).setCell ⟨b, 4, none⟩ d4).setCell ⟨b, 5, none⟩ d5).setCell ⟨b, 6, none⟩ d6).setCell ⟨b, 7, none⟩ d7).setCell ⟨b, 8, none⟩ d8).setCell ⟨b, 9, none⟩ d9).setCell ⟨b, 10, none⟩ d10).frozen? ⟨b, 11, none⟩ = false
def set12 (u : World) (b : Nat) (d0 d1 d2 d3 d4 d5 d6 d7 d8 d9 d10 d11 : Value) : World := ((((((((((((u.setCell ⟨b, 0, none⟩ d0).setCell ⟨b, 1, none⟩ d1).setCell ⟨b, 2, none⟩ d2).setCell ⟨b, 3, none⟩ d3).setCell ⟨b, 4, none⟩ d4).setCell ⟨b, 5, none⟩ d5).setCell ⟨b, 6, none⟩ d6).setCell ⟨b, 7, none⟩ d7).setCell ⟨b, 8, none⟩ d8).setCell ⟨b, 9, none⟩ d9).setCell ⟨b, 10, none⟩ d10).setCell ⟨b, 11, none⟩ d11)
theorem set12_def (u : World) (b : Nat) (d0 d1 d2 d3 d4 d5 d6 d7 d8 d9 d10 d11 : Value) : ((((((((((((u.setCell ⟨b, 0, none⟩ d0).setCell ⟨b, 1, none⟩ d1).setCell ⟨b, 2, none⟩ d2).setCell ⟨b, 3, none⟩ d3).setCell ⟨b, 4, none⟩ d4).setCell ⟨b, 5, none⟩ d5).setCell ⟨b, 6, none⟩ d6).setCell ⟨b, 7, none⟩ d7).setCell ⟨b, 8, none⟩ d8).setCell ⟨b, 9, none⟩ d9).setCell ⟨b, 10, none⟩ d10).setCell ⟨b, 11, none⟩ d11) = set12 u b d0 d1 d2 d3 d4 d5 d6 d7 d8 d9 d10 d11 := rfl
theorem Blk.store12 {u : World} {b : Nat} {T : TypeId} {c0 c1 c2 c3 c4 c5 c6 c7 c8 c9 c10 c11 : Value} (h : Blk u b T #[c0, c1, c2, c3, c4, c5, c6, c7, c8, c9, c10, c11]) (d0 d1 d2 d3 d4 d5 d6 d7 d8 d9 d10 d11 : Value) : Store12 u b c0 c1 c2 c3 c4 c5 c6 c7 c8 c9 c10 c11 d0 d1 d2 d3 d4 d5 d6 d7 d8 d9 d10 d11 := by
  have h1 : Blk (u.setCell ⟨b, 0, none⟩ d0) b T #[d0, c1, c2, c3, c4, c5, c6, c7, c8, c9, c10, c11] := h.set 0 d0
  have h2 : Blk ((u.setCell ⟨b, 0, none⟩ d0).setCell ⟨b, 1, none⟩ d1) b T #[d0, d1, c2, c3, c4, c5, c6, c7, c8, c9, c10, c11] := h1.set 1 d1
  have h3 : Blk (((u.setCell ⟨b, 0, none⟩ d0).setCell ⟨b, 1, none⟩ d1).setCell ⟨b, 2, none⟩ d2) b T #[d0, d1, d2, c3, c4, c5, c6, c7, c8, c9, c10, c11] := h2.set 2 d2
  have h4 : Blk ((((u.setCell ⟨b, 0, none⟩ d0).setCell ⟨b, 1, none⟩ d1).setCell ⟨b, 2, none⟩ d2).setCell ⟨b, 3, none⟩ d3) b T #[d0, d1, d2, d3, c4, c5, c6, c7, c8, c9, c10, c11] := h3.set 3 d3
  have h5 : Blk (((((u.setCell ⟨b, 0, none⟩ d0).setCell ⟨b, 1, none⟩ d1).setCell ⟨b, 2, none⟩ d2).setCell ⟨b, 3, none⟩ d3).setCell ⟨b, 4, none⟩ d4) b T #[d0, d1, d2, d3, d4, c5, c6, c7, c8, c9, c10, c11] := h4.set 4 d4
  have h6 : Blk ((((((u.setCell ⟨b, 0, none⟩ d0).setCell ⟨b, 1, none⟩ d1).setCell ⟨b, 2, none⟩ d2).setCell ⟨b, 3, none⟩ d3).setCell ⟨b, 4, none⟩ d4).setCell ⟨b, 5, none⟩ d5) b T #[d0, d1, d2, d3, d4, d5, c6, c7, c8, c9, c10, c11] := h5.set 5 d5
  have h7 : Blk (((((((u.setCell ⟨b, 0, none⟩ d0).setCell ⟨b, 1, none⟩ d1).setCell ⟨b, 2, none⟩ d2).setCell ⟨b, 3, none⟩ d3).setCell ⟨b, 4, none⟩ d4).setCell ⟨b, 5, none⟩ d5).setCell ⟨b, 6, none⟩ d6) b T #[d0, d1, d2, d3, d4, d5, d6, c7, c8, c9, c10, c11] := h6.set 6 d6
  have h8 : Blk ((((((((u.setCell ⟨b, 0, none⟩ d0).setCell ⟨b, 1, none⟩ d1).setCell ⟨b, 2, none⟩ d2).setCell ⟨b, 3, none⟩ d3).setCell ⟨b, 4, none⟩ d4).setCell ⟨b, 5, none⟩ d5).setCell ⟨b, 6, none⟩ d6).setCell ⟨b, 7, none⟩ d7) b T #[d0, d1, d2, d3, d4, d5, d6, d7, c8, c9, c10, c11] := h7.set 7 d7
  have h9 : Blk (((((((((u.setCell ⟨b, 0, none⟩ d0).setCell ⟨b, 1, none⟩ d1).setCell ⟨b, 2, none⟩ d2).setCell ⟨b, 3, none⟩ d3).setCell ⟨b, 4, none⟩ d4).setCell ⟨b, 5, none⟩ d5).setCell ⟨b, 6, none⟩ d6).setCell ⟨b, 7, none⟩ d7).setCell ⟨b, 8, none⟩ d8) b T #[d0, d1, d2, d3, d4, d5, d6, d7, d8, c9, c10, c11] := h8.set 8 d8
  have h10 : Blk ((((((((((u.setCell ⟨b, 0, none⟩ d0).setCell ⟨b, 1, none⟩ d1).setCell ⟨b, 2, none⟩ d2).setCell ⟨b, 3, none⟩ d3).setCell ⟨b, 4, none⟩ d4).setCell ⟨b, 5, none⟩ d5).setCell ⟨b, 6, none⟩ d6).setCell ⟨b, 7, none⟩ d7).setCell ⟨b, 8, none⟩ d8).setCell ⟨b, 9, none⟩ d9) b T #[d0, d1, d2, d3, d4, d5, d6, d7, d8, d9, c10, c11] := h9.set 9 d9
  have h11 : Blk (((((((((((u.setCell ⟨b, 0, none⟩ d0).setCell ⟨b, 1, none⟩ d1).setCell ⟨b, 2, none⟩ d2).setCell ⟨b, 3, none⟩ d3).setCell ⟨b, 4, none⟩ d4).setCell ⟨b, 5, none⟩ d5).setCell ⟨b, 6, none⟩ d6).setCell ⟨b, 7, none⟩ d7).setCell ⟨b, 8, none⟩ d8).setCell ⟨b, 9, none⟩ d9).setCell ⟨b, 10, none⟩ d10) b T #[d0, d1, d2, d3, d4, d5, d6, d7, d8, d9, d10, c11] := h10.set 10 d10
  exact ⟨h.cell 0, h.fz 0, h1.cell 1, h1.fz 1, h2.cell 2, h2.fz 2, h3.cell 3, h3.fz 3, h4.cell 4, h4.fz 4, h5.cell 5, h5.fz 5, h6.cell 6, h6.fz 6, h7.cell 7, h7.fz 7, h8.cell 8, h8.fz 8, h9.cell 9, h9.fz 9, h10.cell 10, h10.fz 10, h11.cell 11, h11.fz 11⟩
theorem Blk.set12 {u : World} {b : Nat} {T : TypeId} {c0 c1 c2 c3 c4 c5 c6 c7 c8 c9 c10 c11 : Value} (h : Blk u b T #[c0, c1, c2, c3, c4, c5, c6, c7, c8, c9, c10, c11]) (d0 d1 d2 d3 d4 d5 d6 d7 d8 d9 d10 d11 : Value) : Blk (set12 u b d0 d1 d2 d3 d4 d5 d6 d7 d8 d9 d10 d11) b T #[d0, d1, d2, d3, d4, d5, d6, d7, d8, d9, d10, d11] := by
  have h1 : Blk (u.setCell ⟨b, 0, none⟩ d0) b T #[d0, c1, c2, c3, c4, c5, c6, c7, c8, c9, c10, c11] := h.set 0 d0
  have h2 : Blk ((u.setCell ⟨b, 0, none⟩ d0).setCell ⟨b, 1, none⟩ d1) b T #[d0, d1, c2, c3, c4, c5, c6, c7, c8, c9, c10, c11] := h1.set 1 d1
  have h3 : Blk (((u.setCell ⟨b, 0, none⟩ d0).setCell ⟨b, 1, none⟩ d1).setCell ⟨b, 2, none⟩ d2) b T #[d0, d1, d2, c3, c4, c5, c6, c7, c8, c9, c10, c11] := h2.set 2 d2
  have h4 : Blk ((((u.setCell ⟨b, 0, none⟩ d0).setCell ⟨b, 1, none⟩ d1).setCell ⟨b, 2, none⟩ d2).setCell ⟨b, 3, none⟩ d3) b T #[d0, d1, d2, d3, c4, c5, c6, c7, c8, c9, c10, c11] := h3.set 3 d3
  have h5 : Blk (((((u.setCell ⟨b, 0, none⟩ d0).setCell ⟨b, 1, none⟩ d1).setCell ⟨b, 2, none⟩ d2).setCell ⟨b, 3, none⟩ d3).setCell ⟨b, 4, none⟩ d4) b T #[d0, d1, d2, d3, d4, c5, c6, c7, c8, c9, c10, c11] := h4.set 4 d4
  have h6 : Blk ((((((u.setCell ⟨b, 0, none⟩ d0).setCell ⟨b, 1, none⟩ d1).setCell ⟨b, 2, none⟩ d2).setCell ⟨b, 3, none⟩ d3).setCell ⟨b, 4, none⟩ d4).setCell ⟨b, 5, none⟩ d5) b T #[d0, d1, d2, d3, d4, d5, c6, c7, c8, c9, c10, c11] := h5.set 5 d5
  have h7 : Blk (((((((u.setCell ⟨b, 0, none⟩ d0).setCell ⟨b, 1, none⟩ d1).setCell ⟨b, 2, none⟩ d2).setCell ⟨b, 3, none⟩ d3).setCell ⟨b, 4, none⟩ d4).setCell ⟨b, 5, none⟩ d5).setCell ⟨b, 6, none⟩ d6) b T #[d0, d1, d2, d3, d4, d5, d6, c7, c8, c9, c10, c11] := h6.set 6 d6
  have h8 : Blk ((((((((u.setCell ⟨b, 0, none⟩ d0).setCell ⟨b, 1, none⟩ d1).setCell ⟨b, 2, none⟩ d2).setCell ⟨b, 3, none⟩ d3).setCell ⟨b, 4, none⟩ d4).setCell ⟨b, 5, none⟩ d5).setCell ⟨b, 6, none⟩ d6).setCell ⟨b, 7, none⟩ d7) b T #[d0, d1, d2, d3, d4, d5, d6, d7, c8, c9, c10, c11] := h7.set 7 d7
  have h9 : Blk (((((((((u.setCell ⟨b, 0, none⟩ d0).setCell ⟨b, 1, none⟩ d1).setCell ⟨b, 2, none⟩ d2).setCell ⟨b, 3, none⟩ d3).setCell ⟨b, 4, none⟩ d4).setCell ⟨b, 5, none⟩ d5).setCell ⟨b, 6, none⟩ d6).setCell ⟨b, 7, none⟩ d7).setCell ⟨b, 8, none⟩ d8) b T #[d0, d1, d2, d3, d4, d5, d6, d7, d8, c9, c10, c11] := h8.set 8 d8
  have h10 : Blk ((((((((((u.setCell ⟨b, 0, none⟩ d0).setCell ⟨b, 1, none⟩ d1).setCell ⟨b, 2, none⟩ d2).setCell ⟨b, 3, none⟩ d3).setCell ⟨b, 4, none⟩ d4).setCell ⟨b, 5, none⟩ d5).setCell ⟨b, 6, none⟩ d6).setCell ⟨b, 7, none⟩ d7).setCell ⟨b, 8, none⟩ d8).setCell ⟨b, 9, none⟩ d9) b T #[d0, d1, d2, d3, d4, d5, d6, d7, d8, d9, c10, c11] := h9.set 9 d9
  have h11 : Blk (((((((((((u.setCell ⟨b, 0, none⟩ d0).setCell ⟨b, 1, none⟩ d1).setCell ⟨b, 2, none⟩ d2).setCell ⟨b, 3, none⟩ d3).setCell ⟨b, 4, none⟩ d4).setCell ⟨b, 5, none⟩ d5).setCell ⟨b, 6, none⟩ d6).setCell ⟨b, 7, none⟩ d7).setCell ⟨b, 8, none⟩ d8).setCell ⟨b, 9, none⟩ d9).setCell ⟨b, 10, none⟩ d10) b T #[d0, d1, d2, d3, d4, d5, d6, d7, d8, d9, d10, c11] := h10.set 10 d10
  exact h11.set 11 d11
theorem grown_set12 (u : World) (b : Nat) (d0 d1 d2 d3 d4 d5 d6 d7 d8 d9 d10 d11 : Value) : u.grownBy (set12 u b d0 d1 d2 d3 d4 d5 d6 d7 d8 d9 d10 d11) (some b) := (grown_same (grown_same (grown_same (grown_same (grown_same (grown_same (grown_same (grown_same (grown_same (grown_same (grown_same (grownBy_setCellAt u b 0 d0) (grownBy_setCellAt _ b 1 d1)) (grownBy_setCellAt _ b 2 d2)) (grownBy_setCellAt _ b 3 d3)) (grownBy_setCellAt _ b 4 d4)) (grownBy_setCellAt _ b 5 d5)) (grownBy_setCellAt _ b 6 d6)) (grownBy_setCellAt _ b 7 d7)) (grownBy_setCellAt _ b 8 d8)) (grownBy_setCellAt _ b 9 d9)) (grownBy_setCellAt _ b 10 d10)) (grownBy_setCellAt _ b 11 d11))
theorem below_set12 {B b : Nat} {w u : World} (h : Below B w u) (hb : B ≤ b) (hs : B ≤ w.heap.size) (d0 d1 d2 d3 d4 d5 d6 d7 d8 d9 d10 d11 : Value) : Below B w (set12 u b d0 d1 d2 d3 d4 d5 d6 d7 d8 d9 d10 d11) :=
  h.grown (grown_set12 u b d0 d1 d2 d3 d4 d5 d6 d7 d8 d9 d10 d11) (Nat.le_trans hs h.size) (fun g e => by cases e; exact hb)
set_option maxRecDepth 100000 in
set_option maxHeartbeats 8000000 in
theorem toWorld_any (x : Wd) (vi vp vq vu vs vm : Value) (w : World) (h : RdW w vi vp vq vu vs vm x) (hf : WFits 1048576 x) :
    Calls Try.prog 12 #[wval x.nm x.now x.full x.wd x.room vi vp vq vu vs vm x.wst] w fun e w' => ∃ vi' vp' vq' vu' vs' vm', e = .returned (wval x.nm x.now x.full x.wd x.room vi' vp' vq' vu' vs' vm' x.wst) ∧ RdW w' vi' vp' vq' vu' vs' vm' x ∧ Below w.heap.size w w' := by
  obtain ⟨nm, now, full, wd, room, its, ts, ps, bs, ss, ms, wst⟩ := x
  obtain ⟨hi, hp, hq, hu, hs, hm⟩ := h
  obtain ⟨q0, q1, q2, q3, q4, q5, q6, q7, q8, q9, q10, q11⟩ := hf
  dsimp only at *
  obtain ⟨ai, ci, rfl, _⟩ := id hi
  obtain ⟨ap, cp, rfl, _⟩ := hp.form
  obtain ⟨aq, cq, rfl, _⟩ := id hq
  obtain ⟨au, cu, rfl, _⟩ := id hu
  obtain ⟨ax, cx, rfl, _⟩ := id hs
  obtain ⟨am, cm, rfl, _⟩ := id hm
  have hN1 := ((Blk.new w 44 #[.string nm, .int .i64 now, .bool full, .int .i64 wd, .int .i64 room, .slice ai its.length ci, .slice ap ts.length cp, .slice aq ps.length cq, .slice au bs.length cu, .slice ax ss.length cx, .slice am ms.length cm, .int .i64 wst]).alloc (.cells #[.string ⟨#[]⟩, .int .i64 0, .bool false, .int .i64 0, .int .i64 0, .slice none 0 0, .slice none 0 0, .slice none 0 0, .slice none 0 0, .slice none 0 0, .slice none 0 0, .int .i64 0] 50)).alloc (.cells #[.string ⟨#[]⟩, .int .i64 0, .bool false, .int .i64 0, .int .i64 0, .slice none 0 0, .slice none 0 0, .slice none 0 0, .slice none 0 0, .slice none 0 0, .slice none 0 0, .int .i64 0] 50)
  have hN2 := (Blk.new (w.alloc (.cells #[.string nm, .int .i64 now, .bool full, .int .i64 wd, .int .i64 room, .slice ai its.length ci, .slice ap ts.length cp, .slice aq ps.length cq, .slice au bs.length cu, .slice ax ss.length cx, .slice am ms.length cm, .int .i64 wst] 44)) 50 #[.string ⟨#[]⟩, .int .i64 0, .bool false, .int .i64 0, .int .i64 0, .slice none 0 0, .slice none 0 0, .slice none 0 0, .slice none 0 0, .slice none 0 0, .slice none 0 0, .int .i64 0]).alloc (.cells #[.string ⟨#[]⟩, .int .i64 0, .bool false, .int .i64 0, .int .i64 0, .slice none 0 0, .slice none 0 0, .slice none 0 0, .slice none 0 0, .slice none 0 0, .slice none 0 0, .int .i64 0] 50)
  have hN3 := Blk.new ((w.alloc (.cells #[.string nm, .int .i64 now, .bool full, .int .i64 wd, .int .i64 room, .slice ai its.length ci, .slice ap ts.length cp, .slice aq ps.length cq, .slice au bs.length cu, .slice ax ss.length cx, .slice am ms.length cm, .int .i64 wst] 44)).alloc (.cells #[.string ⟨#[]⟩, .int .i64 0, .bool false, .int .i64 0, .int .i64 0, .slice none 0 0, .slice none 0 0, .slice none 0 0, .slice none 0 0, .slice none 0 0, .slice none 0 0, .int .i64 0] 50)) 50 #[.string ⟨#[]⟩, .int .i64 0, .bool false, .int .i64 0, .int .i64 0, .slice none 0 0, .slice none 0 0, .slice none 0 0, .slice none 0 0, .slice none 0 0, .slice none 0 0, .int .i64 0]
  rw [World.size_alloc] at hN2
  rw [World.size_alloc, World.size_alloc] at hN3
  have hA := (((Below.refl w.heap.size w).alloc (Nat.le_refl _) (.cells #[.string nm, .int .i64 now, .bool full, .int .i64 wd, .int .i64 room, .slice ai its.length ci, .slice ap ts.length cp, .slice aq ps.length cq, .slice au bs.length cu, .slice ax ss.length cx, .slice am ms.length cm, .int .i64 wst] 44)).alloc (by simp) (.cells #[.string ⟨#[]⟩, .int .i64 0, .bool false, .int .i64 0, .int .i64 0, .slice none 0 0, .slice none 0 0, .slice none 0 0, .slice none 0 0, .slice none 0 0, .slice none 0 0, .int .i64 0] 50)).alloc (by simp; omega) (.cells #[.string ⟨#[]⟩, .int .i64 0, .bool false, .int .i64 0, .int .i64 0, .slice none 0 0, .slice none 0 0, .slice none 0 0, .slice none 0 0, .slice none 0 0, .slice none 0 0, .int .i64 0] 50)
  have HT := hid (toFetch_any nm now full wd room _ _ _ its ts ps _ (hi.below hA) (hp.below hA) (hq.below hA) q1 q3 q5 q6)
  have HTU := hid fun W k => toBoolS_any (.slice au bs.length cu) bs W k q7
  have HTS := hid fun W k => toStoreS_any (.slice ax ss.length cx) ss W k q8 q9
  have HTM := hid fun W k => toMessageS_any (.slice am ms.length cm) ms W k q10
  have HU := hid hu
  have HS := hid hs
  have HM := hid hm
  have HN1 := hid hN1
  have HN2 := hid hN2
  have HN3 := hid hN3
  have HA := hid hA
  clear hi hp hq hu hs hm hA hN1 hN2 hN3 q0 q1 q2 q3 q4 q5 q6 q7 q8 q9 q10 q11
  go_enter Try.func12, Try.ntmps12
  go_wp2_with fail
  refine HT.out.mono ?_
  rintro e w1 ⟨v1, p1, q1, qs, rfl, hqs, fo1, _, hb1⟩
  have N1 := HN1.out.below hb1
  have N2 := HN2.out.below hb1
  have N3 := HN3.out.below hb1
  have B1 := HA.out.trans (hb1.mono (by simp; omega))
  rw [World.size_alloc, World.size_alloc, World.size_alloc] at fo1
  have hs1 := hb1.size
  rw [World.size_alloc, World.size_alloc, World.size_alloc] at hs1
  have hql : qs.length = ps.length := by rw [← hqs, List.length_map]
  obtain ⟨a1, c1, rfl⟩ := row_any fo1.store.items
  obtain ⟨b1, d1, rfl⟩ := row_any fo1.store.pins
  obtain ⟨e1, f1, hv1⟩ := row_any fo1.peers.row
  rw [hql] at hv1
  subst hv1
  have HQS := hid hqs
  have K1 : Blk (w1.setCell ⟨w.heap.size + 1 + 1, 0, none⟩ (.string nm)) (w.heap.size + 1 + 1) 50 #[.string nm, .int .i64 0, .bool false, .int .i64 0, .int .i64 0, .slice none 0 0, .slice none 0 0, .slice none 0 0, .slice none 0 0, .slice none 0 0, .slice none 0 0, .int .i64 0] := N3.set 0 (.string nm)
  have u0 : w1.cell? ⟨w.heap.size + 1 + 1, 0, none⟩ = some (.string ⟨#[]⟩) := N3.cell 0
  have r0 : w1.frozen? ⟨w.heap.size + 1 + 1, 0, none⟩ = false := N3.fz 0
  have K2 : Blk ((w1.setCell ⟨w.heap.size + 1 + 1, 0, none⟩ (.string nm)).setCell ⟨w.heap.size + 1 + 1, 1, none⟩ (.int .i64 now)) (w.heap.size + 1 + 1) 50 #[.string nm, .int .i64 now, .bool false, .int .i64 0, .int .i64 0, .slice none 0 0, .slice none 0 0, .slice none 0 0, .slice none 0 0, .slice none 0 0, .slice none 0 0, .int .i64 0] := K1.set 1 (.int .i64 now)
  have u1 : (w1.setCell ⟨w.heap.size + 1 + 1, 0, none⟩ (.string nm)).cell? ⟨w.heap.size + 1 + 1, 1, none⟩ = some (.int .i64 0) := K1.cell 1
  have r1 : (w1.setCell ⟨w.heap.size + 1 + 1, 0, none⟩ (.string nm)).frozen? ⟨w.heap.size + 1 + 1, 1, none⟩ = false := K1.fz 1
  have K3 : Blk (((w1.setCell ⟨w.heap.size + 1 + 1, 0, none⟩ (.string nm)).setCell ⟨w.heap.size + 1 + 1, 1, none⟩ (.int .i64 now)).setCell ⟨w.heap.size + 1 + 1, 2, none⟩ (.bool full)) (w.heap.size + 1 + 1) 50 #[.string nm, .int .i64 now, .bool full, .int .i64 0, .int .i64 0, .slice none 0 0, .slice none 0 0, .slice none 0 0, .slice none 0 0, .slice none 0 0, .slice none 0 0, .int .i64 0] := K2.set 2 (.bool full)
  have u2 : ((w1.setCell ⟨w.heap.size + 1 + 1, 0, none⟩ (.string nm)).setCell ⟨w.heap.size + 1 + 1, 1, none⟩ (.int .i64 now)).cell? ⟨w.heap.size + 1 + 1, 2, none⟩ = some (.bool false) := K2.cell 2
  have r2 : ((w1.setCell ⟨w.heap.size + 1 + 1, 0, none⟩ (.string nm)).setCell ⟨w.heap.size + 1 + 1, 1, none⟩ (.int .i64 now)).frozen? ⟨w.heap.size + 1 + 1, 2, none⟩ = false := K2.fz 2
  have K4 : Blk ((((w1.setCell ⟨w.heap.size + 1 + 1, 0, none⟩ (.string nm)).setCell ⟨w.heap.size + 1 + 1, 1, none⟩ (.int .i64 now)).setCell ⟨w.heap.size + 1 + 1, 2, none⟩ (.bool full)).setCell ⟨w.heap.size + 1 + 1, 3, none⟩ (.int .i64 wd)) (w.heap.size + 1 + 1) 50 #[.string nm, .int .i64 now, .bool full, .int .i64 wd, .int .i64 0, .slice none 0 0, .slice none 0 0, .slice none 0 0, .slice none 0 0, .slice none 0 0, .slice none 0 0, .int .i64 0] := K3.set 3 (.int .i64 wd)
  have u3 : (((w1.setCell ⟨w.heap.size + 1 + 1, 0, none⟩ (.string nm)).setCell ⟨w.heap.size + 1 + 1, 1, none⟩ (.int .i64 now)).setCell ⟨w.heap.size + 1 + 1, 2, none⟩ (.bool full)).cell? ⟨w.heap.size + 1 + 1, 3, none⟩ = some (.int .i64 0) := K3.cell 3
  have r3 : (((w1.setCell ⟨w.heap.size + 1 + 1, 0, none⟩ (.string nm)).setCell ⟨w.heap.size + 1 + 1, 1, none⟩ (.int .i64 now)).setCell ⟨w.heap.size + 1 + 1, 2, none⟩ (.bool full)).frozen? ⟨w.heap.size + 1 + 1, 3, none⟩ = false := K3.fz 3
  have K5 : Blk (((((w1.setCell ⟨w.heap.size + 1 + 1, 0, none⟩ (.string nm)).setCell ⟨w.heap.size + 1 + 1, 1, none⟩ (.int .i64 now)).setCell ⟨w.heap.size + 1 + 1, 2, none⟩ (.bool full)).setCell ⟨w.heap.size + 1 + 1, 3, none⟩ (.int .i64 wd)).setCell ⟨w.heap.size + 1 + 1, 4, none⟩ (.int .i64 room)) (w.heap.size + 1 + 1) 50 #[.string nm, .int .i64 now, .bool full, .int .i64 wd, .int .i64 room, .slice none 0 0, .slice none 0 0, .slice none 0 0, .slice none 0 0, .slice none 0 0, .slice none 0 0, .int .i64 0] := K4.set 4 (.int .i64 room)
  have u4 : ((((w1.setCell ⟨w.heap.size + 1 + 1, 0, none⟩ (.string nm)).setCell ⟨w.heap.size + 1 + 1, 1, none⟩ (.int .i64 now)).setCell ⟨w.heap.size + 1 + 1, 2, none⟩ (.bool full)).setCell ⟨w.heap.size + 1 + 1, 3, none⟩ (.int .i64 wd)).cell? ⟨w.heap.size + 1 + 1, 4, none⟩ = some (.int .i64 0) := K4.cell 4
  have r4 : ((((w1.setCell ⟨w.heap.size + 1 + 1, 0, none⟩ (.string nm)).setCell ⟨w.heap.size + 1 + 1, 1, none⟩ (.int .i64 now)).setCell ⟨w.heap.size + 1 + 1, 2, none⟩ (.bool full)).setCell ⟨w.heap.size + 1 + 1, 3, none⟩ (.int .i64 wd)).frozen? ⟨w.heap.size + 1 + 1, 4, none⟩ = false := K4.fz 4
  have K6 : Blk ((((((w1.setCell ⟨w.heap.size + 1 + 1, 0, none⟩ (.string nm)).setCell ⟨w.heap.size + 1 + 1, 1, none⟩ (.int .i64 now)).setCell ⟨w.heap.size + 1 + 1, 2, none⟩ (.bool full)).setCell ⟨w.heap.size + 1 + 1, 3, none⟩ (.int .i64 wd)).setCell ⟨w.heap.size + 1 + 1, 4, none⟩ (.int .i64 room)).setCell ⟨w.heap.size + 1 + 1, 5, none⟩ (.slice a1 its.length c1)) (w.heap.size + 1 + 1) 50 #[.string nm, .int .i64 now, .bool full, .int .i64 wd, .int .i64 room, .slice a1 its.length c1, .slice none 0 0, .slice none 0 0, .slice none 0 0, .slice none 0 0, .slice none 0 0, .int .i64 0] := K5.set 5 (.slice a1 its.length c1)
  have u5 : (((((w1.setCell ⟨w.heap.size + 1 + 1, 0, none⟩ (.string nm)).setCell ⟨w.heap.size + 1 + 1, 1, none⟩ (.int .i64 now)).setCell ⟨w.heap.size + 1 + 1, 2, none⟩ (.bool full)).setCell ⟨w.heap.size + 1 + 1, 3, none⟩ (.int .i64 wd)).setCell ⟨w.heap.size + 1 + 1, 4, none⟩ (.int .i64 room)).cell? ⟨w.heap.size + 1 + 1, 5, none⟩ = some (.slice none 0 0) := K5.cell 5
  have r5 : (((((w1.setCell ⟨w.heap.size + 1 + 1, 0, none⟩ (.string nm)).setCell ⟨w.heap.size + 1 + 1, 1, none⟩ (.int .i64 now)).setCell ⟨w.heap.size + 1 + 1, 2, none⟩ (.bool full)).setCell ⟨w.heap.size + 1 + 1, 3, none⟩ (.int .i64 wd)).setCell ⟨w.heap.size + 1 + 1, 4, none⟩ (.int .i64 room)).frozen? ⟨w.heap.size + 1 + 1, 5, none⟩ = false := K5.fz 5
  have K7 : Blk (((((((w1.setCell ⟨w.heap.size + 1 + 1, 0, none⟩ (.string nm)).setCell ⟨w.heap.size + 1 + 1, 1, none⟩ (.int .i64 now)).setCell ⟨w.heap.size + 1 + 1, 2, none⟩ (.bool full)).setCell ⟨w.heap.size + 1 + 1, 3, none⟩ (.int .i64 wd)).setCell ⟨w.heap.size + 1 + 1, 4, none⟩ (.int .i64 room)).setCell ⟨w.heap.size + 1 + 1, 5, none⟩ (.slice a1 its.length c1)).setCell ⟨w.heap.size + 1 + 1, 6, none⟩ (.slice b1 ts.length d1)) (w.heap.size + 1 + 1) 50 #[.string nm, .int .i64 now, .bool full, .int .i64 wd, .int .i64 room, .slice a1 its.length c1, .slice b1 ts.length d1, .slice none 0 0, .slice none 0 0, .slice none 0 0, .slice none 0 0, .int .i64 0] := K6.set 6 (.slice b1 ts.length d1)
  have u6 : ((((((w1.setCell ⟨w.heap.size + 1 + 1, 0, none⟩ (.string nm)).setCell ⟨w.heap.size + 1 + 1, 1, none⟩ (.int .i64 now)).setCell ⟨w.heap.size + 1 + 1, 2, none⟩ (.bool full)).setCell ⟨w.heap.size + 1 + 1, 3, none⟩ (.int .i64 wd)).setCell ⟨w.heap.size + 1 + 1, 4, none⟩ (.int .i64 room)).setCell ⟨w.heap.size + 1 + 1, 5, none⟩ (.slice a1 its.length c1)).cell? ⟨w.heap.size + 1 + 1, 6, none⟩ = some (.slice none 0 0) := K6.cell 6
  have r6 : ((((((w1.setCell ⟨w.heap.size + 1 + 1, 0, none⟩ (.string nm)).setCell ⟨w.heap.size + 1 + 1, 1, none⟩ (.int .i64 now)).setCell ⟨w.heap.size + 1 + 1, 2, none⟩ (.bool full)).setCell ⟨w.heap.size + 1 + 1, 3, none⟩ (.int .i64 wd)).setCell ⟨w.heap.size + 1 + 1, 4, none⟩ (.int .i64 room)).setCell ⟨w.heap.size + 1 + 1, 5, none⟩ (.slice a1 its.length c1)).frozen? ⟨w.heap.size + 1 + 1, 6, none⟩ = false := K6.fz 6
  have K8 : Blk ((((((((w1.setCell ⟨w.heap.size + 1 + 1, 0, none⟩ (.string nm)).setCell ⟨w.heap.size + 1 + 1, 1, none⟩ (.int .i64 now)).setCell ⟨w.heap.size + 1 + 1, 2, none⟩ (.bool full)).setCell ⟨w.heap.size + 1 + 1, 3, none⟩ (.int .i64 wd)).setCell ⟨w.heap.size + 1 + 1, 4, none⟩ (.int .i64 room)).setCell ⟨w.heap.size + 1 + 1, 5, none⟩ (.slice a1 its.length c1)).setCell ⟨w.heap.size + 1 + 1, 6, none⟩ (.slice b1 ts.length d1)).setCell ⟨w.heap.size + 1 + 1, 7, none⟩ (.slice e1 ps.length f1)) (w.heap.size + 1 + 1) 50 #[.string nm, .int .i64 now, .bool full, .int .i64 wd, .int .i64 room, .slice a1 its.length c1, .slice b1 ts.length d1, .slice e1 ps.length f1, .slice none 0 0, .slice none 0 0, .slice none 0 0, .int .i64 0] := K7.set 7 (.slice e1 ps.length f1)
  have u7 : (((((((w1.setCell ⟨w.heap.size + 1 + 1, 0, none⟩ (.string nm)).setCell ⟨w.heap.size + 1 + 1, 1, none⟩ (.int .i64 now)).setCell ⟨w.heap.size + 1 + 1, 2, none⟩ (.bool full)).setCell ⟨w.heap.size + 1 + 1, 3, none⟩ (.int .i64 wd)).setCell ⟨w.heap.size + 1 + 1, 4, none⟩ (.int .i64 room)).setCell ⟨w.heap.size + 1 + 1, 5, none⟩ (.slice a1 its.length c1)).setCell ⟨w.heap.size + 1 + 1, 6, none⟩ (.slice b1 ts.length d1)).cell? ⟨w.heap.size + 1 + 1, 7, none⟩ = some (.slice none 0 0) := K7.cell 7
  have r7 : (((((((w1.setCell ⟨w.heap.size + 1 + 1, 0, none⟩ (.string nm)).setCell ⟨w.heap.size + 1 + 1, 1, none⟩ (.int .i64 now)).setCell ⟨w.heap.size + 1 + 1, 2, none⟩ (.bool full)).setCell ⟨w.heap.size + 1 + 1, 3, none⟩ (.int .i64 wd)).setCell ⟨w.heap.size + 1 + 1, 4, none⟩ (.int .i64 room)).setCell ⟨w.heap.size + 1 + 1, 5, none⟩ (.slice a1 its.length c1)).setCell ⟨w.heap.size + 1 + 1, 6, none⟩ (.slice b1 ts.length d1)).frozen? ⟨w.heap.size + 1 + 1, 7, none⟩ = false := K7.fz 7
  have G4 := (grown_same (grown_same (grown_same (grown_same (grown_same (grown_same (grown_same (grownBy_setCellAt w1 (w.heap.size + 1 + 1) 0 (.string nm)) (grownBy_setCellAt _ (w.heap.size + 1 + 1) 1 (.int .i64 now))) (grownBy_setCellAt _ (w.heap.size + 1 + 1) 2 (.bool full))) (grownBy_setCellAt _ (w.heap.size + 1 + 1) 3 (.int .i64 wd))) (grownBy_setCellAt _ (w.heap.size + 1 + 1) 4 (.int .i64 room))) (grownBy_setCellAt _ (w.heap.size + 1 + 1) 5 (.slice a1 its.length c1))) (grownBy_setCellAt _ (w.heap.size + 1 + 1) 6 (.slice b1 ts.length d1))) (grownBy_setCellAt _ (w.heap.size + 1 + 1) 7 (.slice e1 ps.length f1)))
  have hne1 : w.heap.size ≠ w.heap.size + 1 + 1 := by omega
  have hne2 : w.heap.size + 1 ≠ w.heap.size + 1 + 1 := by omega
  have M1 := N1.kept G4 (fun e => hne1 (Option.some.inj e))
  have M2 := N2.kept G4 (fun e => hne2 (Option.some.inj e))
  have MB := B1.grown G4 (by omega) (fun g e => by cases e; omega)
  have MF := fo1.kept G4 (by omega)
  have y8 : ((((((((w1.setCell ⟨w.heap.size + 1 + 1, 0, none⟩ (.string nm)).setCell ⟨w.heap.size + 1 + 1, 1, none⟩ (.int .i64 now)).setCell ⟨w.heap.size + 1 + 1, 2, none⟩ (.bool full)).setCell ⟨w.heap.size + 1 + 1, 3, none⟩ (.int .i64 wd)).setCell ⟨w.heap.size + 1 + 1, 4, none⟩ (.int .i64 room)).setCell ⟨w.heap.size + 1 + 1, 5, none⟩ (.slice a1 its.length c1)).setCell ⟨w.heap.size + 1 + 1, 6, none⟩ (.slice b1 ts.length d1)).setCell ⟨w.heap.size + 1 + 1, 7, none⟩ (.slice e1 ps.length f1)).cell? ⟨w.heap.size, 8, none⟩ = some (.slice au bs.length cu) := M1.cell 8
  have hs4 := G4.size
  have HK8 := hid K8
  have HM1 := hid M1
  have HM2 := hid M2
  have HMB := hid MB
  have HMF := hid MF
  have HTU4 := hid (HTU.out _ (HU.out.below MB))
  clear K1 K2 K3 K4 K5 K6 K7 K8 M1 M2 MB MF N1 N2 N3 B1 fo1 hb1 G4 HTU hqs
  go_wp2_with fail
  obtain ⟨w4, hw4⟩ : ∃ w4, w4 = ((((((((w1.setCell ⟨w.heap.size + 1 + 1, 0, none⟩ (.string nm)).setCell ⟨w.heap.size + 1 + 1, 1, none⟩ (.int .i64 now)).setCell ⟨w.heap.size + 1 + 1, 2, none⟩ (.bool full)).setCell ⟨w.heap.size + 1 + 1, 3, none⟩ (.int .i64 wd)).setCell ⟨w.heap.size + 1 + 1, 4, none⟩ (.int .i64 room)).setCell ⟨w.heap.size + 1 + 1, 5, none⟩ (.slice a1 its.length c1)).setCell ⟨w.heap.size + 1 + 1, 6, none⟩ (.slice b1 ts.length d1)).setCell ⟨w.heap.size + 1 + 1, 7, none⟩ (.slice e1 ps.length f1)) := ⟨_, rfl⟩
  rw [← hw4] at HK8 HM1 HM2 HMB HMF HTU4 hs4 ⊢
  clear u0 r0 u1 r1 u2 r2 u3 r3 u4 r4 u5 r5 u6 r6 u7 r7 y8 hw4
  refine HTU4.out.mono ?_
  rintro e w5 ⟨vu5, rfl, ou5, hb5⟩
  obtain ⟨au5, cu5, hvu5⟩ : ∃ a c, vu5 = .slice a bs.length c := by
    obtain ⟨g, cs, e, _⟩ := id ou5
    exact ⟨_, _, e⟩
  subst hvu5
  have Kw5 := HK8.out.below hb5
  have M1w5 := HM1.out.below hb5
  have M2w5 := HM2.out.below hb5
  have Bw5 := HMB.out.trans (hb5.mono HMB.out.size)
  have Fw5 := HMF.out.below hb5
  have hsw5 := hb5.size
  have x8 : w5.cell? ⟨w.heap.size + 1 + 1, 8, none⟩ = some (.slice none 0 0) := Kw5.cell 8
  have z8 := Kw5.fz 8
  have Lw5 : Blk (w5.setCell ⟨w.heap.size + 1 + 1, 8, none⟩ (.slice au5 bs.length cu5)) (w.heap.size + 1 + 1) 50 #[.string nm, .int .i64 now, .bool full, .int .i64 wd, .int .i64 room, .slice a1 its.length c1, .slice b1 ts.length d1, .slice e1 ps.length f1, .slice au5 bs.length cu5, .slice none 0 0, .slice none 0 0, .int .i64 0] := Kw5.set 8 (.slice au5 bs.length cu5)
  have gw5 := grownBy_setCellAt w5 (w.heap.size + 1 + 1) 8 (.slice au5 bs.length cu5)
  have P1w5 := M1w5.kept gw5 (fun e => hne1 (Option.some.inj e))
  have P2w5 := M2w5.kept gw5 (fun e => hne2 (Option.some.inj e))
  have Qw5 := Bw5.grown gw5 (by omega) (fun g e => by cases e; omega)
  have Rw5 := Fw5.kept gw5 (by omega)
  have O1w5 := ou5.kept gw5 (by omega)
  have y9 : (w5.setCell ⟨w.heap.size + 1 + 1, 8, none⟩ (.slice au5 bs.length cu5)).cell? ⟨w.heap.size, 9, none⟩ = some (.slice ax ss.length cx) := P1w5.cell 9
  have hs6 := gw5.size
  have HTS6 := hid (HTS.out _ (HS.out.below Qw5))
  have HL := hid Lw5
  have HP1 := hid P1w5
  have HP2 := hid P2w5
  have HQ := hid Qw5
  have HR := hid Rw5
  have HO1 := hid O1w5
  clear Kw5 M1w5 M2w5 Bw5 Fw5 Lw5 gw5 P1w5 P2w5 Qw5 Rw5 O1w5 ou5 hb5 HK8 HM1 HM2 HMB HMF HTS
  go_wp2_with fail
  obtain ⟨w6, hw6⟩ : ∃ w6, w6 = (w5.setCell ⟨w.heap.size + 1 + 1, 8, none⟩ (.slice au5 bs.length cu5)) := ⟨_, rfl⟩
  rw [← hw6] at HL HP1 HP2 HQ HR HO1 HTS6 hs6 ⊢
  clear x8 z8 y9 hw6
  refine HTS6.out.mono ?_
  rintro e w7 ⟨vs7, rfl, os7, hb7⟩
  obtain ⟨as7, cs7, hvs7⟩ : ∃ a c, vs7 = .slice a ss.length c := by
    obtain ⟨g, cs, e, _⟩ := id os7
    exact ⟨_, _, e⟩
  subst hvs7
  have hs7 := hb7.size
  have K7 := HL.out.below hb7
  have A7 := HP1.out.below hb7
  have C7 := HP2.out.below hb7
  have B7 := HQ.out.trans (hb7.mono HQ.out.size)
  have F7 := HR.out.below hb7
  have U7 := HO1.out.below hb7
  have x9 : w7.cell? ⟨w.heap.size + 1 + 1, 9, none⟩ = some (.slice none 0 0) := K7.cell 9
  have z9 := K7.fz 9
  have L7 : Blk (w7.setCell ⟨w.heap.size + 1 + 1, 9, none⟩ (.slice as7 ss.length cs7)) (w.heap.size + 1 + 1) 50 #[.string nm, .int .i64 now, .bool full, .int .i64 wd, .int .i64 room, .slice a1 its.length c1, .slice b1 ts.length d1, .slice e1 ps.length f1, .slice au5 bs.length cu5, .slice as7 ss.length cs7, .slice none 0 0, .int .i64 0] := K7.set 9 (.slice as7 ss.length cs7)
  have g7 := grownBy_setCellAt w7 (w.heap.size + 1 + 1) 9 (.slice as7 ss.length cs7)
  have y10 : (w7.setCell ⟨w.heap.size + 1 + 1, 9, none⟩ (.slice as7 ss.length cs7)).cell? ⟨w.heap.size, 10, none⟩ = some (.slice am ms.length cm) := (A7.kept g7 (fun e => hne1 (Option.some.inj e))).cell 10
  have Q8 := B7.grown g7 (by omega) (fun g e => by cases e; omega)
  have hs8 := g7.size
  have HTM8 := hid (HTM.out _ (HM.out.below Q8))
  have HL8 := hid L7
  have HP18 := hid (A7.kept g7 (fun e => hne1 (Option.some.inj e)))
  have HP28 := hid (C7.kept g7 (fun e => hne2 (Option.some.inj e)))
  have HQ8 := hid Q8
  have HR8 := hid (F7.kept g7 (by omega))
  have HU8 := hid (U7.kept g7 (by omega))
  have HS8 := hid (os7.kept g7 (by omega))
  clear K7 A7 C7 B7 F7 U7 L7 g7 Q8 os7 hb7 HL HP1 HP2 HQ HR HO1 HTM
  go_wp2_with fail
  obtain ⟨w8, hw8⟩ : ∃ w8, w8 = w7.setCell ⟨w.heap.size + 1 + 1, 9, none⟩ (.slice as7 ss.length cs7) := ⟨_, rfl⟩
  rw [← hw8] at HL8 HP18 HP28 HQ8 HR8 HU8 HS8 HTM8 hs8 ⊢
  clear x9 z9 y10 hw8
  refine HTM8.out.mono ?_
  rintro e w9 ⟨vm9, rfl, om9, hb9⟩
  obtain ⟨am9, cm9, hvm9⟩ : ∃ a c, vm9 = .slice a ms.length c := by
    obtain ⟨g, cs, e, _⟩ := id om9
    exact ⟨_, _, e⟩
  subst hvm9
  have hs9 := hb9.size
  have K9 := HL8.out.below hb9
  have A9 := HP18.out.below hb9
  have C9 := HP28.out.below hb9
  have B9 := HQ8.out.trans (hb9.mono HQ8.out.size)
  have F9 := HR8.out.below hb9
  have U9 := HU8.out.below hb9
  have S9 := HS8.out.below hb9
  have x10 : w9.cell? ⟨w.heap.size + 1 + 1, 10, none⟩ = some (.slice none 0 0) := K9.cell 10
  have z10 := K9.fz 10
  have L9 : Blk (w9.setCell ⟨w.heap.size + 1 + 1, 10, none⟩ (.slice am9 ms.length cm9)) (w.heap.size + 1 + 1) 50 #[.string nm, .int .i64 now, .bool full, .int .i64 wd, .int .i64 room, .slice a1 its.length c1, .slice b1 ts.length d1, .slice e1 ps.length f1, .slice au5 bs.length cu5, .slice as7 ss.length cs7, .slice am9 ms.length cm9, .int .i64 0] := K9.set 10 (.slice am9 ms.length cm9)
  have g9 := grownBy_setCellAt w9 (w.heap.size + 1 + 1) 10 (.slice am9 ms.length cm9)
  have x11 : (w9.setCell ⟨w.heap.size + 1 + 1, 10, none⟩ (.slice am9 ms.length cm9)).cell? ⟨w.heap.size + 1 + 1, 11, none⟩ = some (.int .i64 0) := L9.cell 11
  have z11 := L9.fz 11
  have y11 : (w9.setCell ⟨w.heap.size + 1 + 1, 10, none⟩ (.slice am9 ms.length cm9)).cell? ⟨w.heap.size, 11, none⟩ = some (.int .i64 wst) := (A9.kept g9 (fun e => hne1 (Option.some.inj e))).cell 11
  have L10 : Blk ((w9.setCell ⟨w.heap.size + 1 + 1, 10, none⟩ (.slice am9 ms.length cm9)).setCell ⟨w.heap.size + 1 + 1, 11, none⟩ (.int .i64 wst)) (w.heap.size + 1 + 1) 50 #[.string nm, .int .i64 now, .bool full, .int .i64 wd, .int .i64 room, .slice a1 its.length c1, .slice b1 ts.length d1, .slice e1 ps.length f1, .slice au5 bs.length cu5, .slice as7 ss.length cs7, .slice am9 ms.length cm9, .int .i64 wst] := L9.set 11 (.int .i64 wst)
  have g10 := grown_same g9 (grownBy_setCellAt (w9.setCell ⟨w.heap.size + 1 + 1, 10, none⟩ (.slice am9 ms.length cm9)) (w.heap.size + 1 + 1) 11 (.int .i64 wst))
  have l0 : ((w9.setCell ⟨w.heap.size + 1 + 1, 10, none⟩ (.slice am9 ms.length cm9)).setCell ⟨w.heap.size + 1 + 1, 11, none⟩ (.int .i64 wst)).cell? ⟨w.heap.size + 1 + 1, 0, none⟩ = some (.string nm) := L10.cell 0
  have l1 : ((w9.setCell ⟨w.heap.size + 1 + 1, 10, none⟩ (.slice am9 ms.length cm9)).setCell ⟨w.heap.size + 1 + 1, 11, none⟩ (.int .i64 wst)).cell? ⟨w.heap.size + 1 + 1, 1, none⟩ = some (.int .i64 now) := L10.cell 1
  have l2 : ((w9.setCell ⟨w.heap.size + 1 + 1, 10, none⟩ (.slice am9 ms.length cm9)).setCell ⟨w.heap.size + 1 + 1, 11, none⟩ (.int .i64 wst)).cell? ⟨w.heap.size + 1 + 1, 2, none⟩ = some (.bool full) := L10.cell 2
  have l3 : ((w9.setCell ⟨w.heap.size + 1 + 1, 10, none⟩ (.slice am9 ms.length cm9)).setCell ⟨w.heap.size + 1 + 1, 11, none⟩ (.int .i64 wst)).cell? ⟨w.heap.size + 1 + 1, 3, none⟩ = some (.int .i64 wd) := L10.cell 3
  have l4 : ((w9.setCell ⟨w.heap.size + 1 + 1, 10, none⟩ (.slice am9 ms.length cm9)).setCell ⟨w.heap.size + 1 + 1, 11, none⟩ (.int .i64 wst)).cell? ⟨w.heap.size + 1 + 1, 4, none⟩ = some (.int .i64 room) := L10.cell 4
  have l5 : ((w9.setCell ⟨w.heap.size + 1 + 1, 10, none⟩ (.slice am9 ms.length cm9)).setCell ⟨w.heap.size + 1 + 1, 11, none⟩ (.int .i64 wst)).cell? ⟨w.heap.size + 1 + 1, 5, none⟩ = some (.slice a1 its.length c1) := L10.cell 5
  have l6 : ((w9.setCell ⟨w.heap.size + 1 + 1, 10, none⟩ (.slice am9 ms.length cm9)).setCell ⟨w.heap.size + 1 + 1, 11, none⟩ (.int .i64 wst)).cell? ⟨w.heap.size + 1 + 1, 6, none⟩ = some (.slice b1 ts.length d1) := L10.cell 6
  have l7 : ((w9.setCell ⟨w.heap.size + 1 + 1, 10, none⟩ (.slice am9 ms.length cm9)).setCell ⟨w.heap.size + 1 + 1, 11, none⟩ (.int .i64 wst)).cell? ⟨w.heap.size + 1 + 1, 7, none⟩ = some (.slice e1 ps.length f1) := L10.cell 7
  have l8 : ((w9.setCell ⟨w.heap.size + 1 + 1, 10, none⟩ (.slice am9 ms.length cm9)).setCell ⟨w.heap.size + 1 + 1, 11, none⟩ (.int .i64 wst)).cell? ⟨w.heap.size + 1 + 1, 8, none⟩ = some (.slice au5 bs.length cu5) := L10.cell 8
  have l9 : ((w9.setCell ⟨w.heap.size + 1 + 1, 10, none⟩ (.slice am9 ms.length cm9)).setCell ⟨w.heap.size + 1 + 1, 11, none⟩ (.int .i64 wst)).cell? ⟨w.heap.size + 1 + 1, 9, none⟩ = some (.slice as7 ss.length cs7) := L10.cell 9
  have l10 : ((w9.setCell ⟨w.heap.size + 1 + 1, 10, none⟩ (.slice am9 ms.length cm9)).setCell ⟨w.heap.size + 1 + 1, 11, none⟩ (.int .i64 wst)).cell? ⟨w.heap.size + 1 + 1, 10, none⟩ = some (.slice am9 ms.length cm9) := L10.cell 10
  have l11 : ((w9.setCell ⟨w.heap.size + 1 + 1, 10, none⟩ (.slice am9 ms.length cm9)).setCell ⟨w.heap.size + 1 + 1, 11, none⟩ (.int .i64 wst)).cell? ⟨w.heap.size + 1 + 1, 11, none⟩ = some (.int .i64 wst) := L10.cell 11
  have C10 := C9.kept g10 (fun e => hne2 (Option.some.inj e))
  obtain ⟨n0, m0, n1, m1, n2, m2, n3, m3, n4, m4, n5, m5, n6, m6, n7, m7, n8, m8, n9, m9, n10, m10, n11, m11⟩ := C10.store12 (.string nm) (.int .i64 now) (.bool full) (.int .i64 wd) (.int .i64 room) (.slice a1 its.length c1) (.slice b1 ts.length d1) (.slice e1 ps.length f1) (.slice au5 bs.length cu5) (.slice as7 ss.length cs7) (.slice am9 ms.length cm9) (.int .i64 wst)
  have ZZ := hid (C10.set12 (.string nm) (.int .i64 now) (.bool full) (.int .i64 wd) (.int .i64 room) (.slice a1 its.length c1) (.slice b1 ts.length d1) (.slice e1 ps.length f1) (.slice au5 bs.length cu5) (.slice as7 ss.length cs7) (.slice am9 ms.length cm9) (.int .i64 wst))
  have g12 := grown_set12 ((w9.setCell ⟨w.heap.size + 1 + 1, 10, none⟩ (.slice am9 ms.length cm9)).setCell ⟨w.heap.size + 1 + 1, 11, none⟩ (.int .i64 wst)) (w.heap.size + 1) (.string nm) (.int .i64 now) (.bool full) (.int .i64 wd) (.int .i64 room) (.slice a1 its.length c1) (.slice b1 ts.length d1) (.slice e1 ps.length f1) (.slice au5 bs.length cu5) (.slice as7 ss.length cs7) (.slice am9 ms.length cm9) (.int .i64 wst)
  have B10 := B9.grown g10 (by omega) (fun g e => by cases e; omega)
  have BB := hid (below_set12 B10 (b := w.heap.size + 1) (by omega) (Nat.le_refl _) (.string nm) (.int .i64 now) (.bool full) (.int .i64 wd) (.int .i64 room) (.slice a1 its.length c1) (.slice b1 ts.length d1) (.slice e1 ps.length f1) (.slice au5 bs.length cu5) (.slice as7 ss.length cs7) (.slice am9 ms.length cm9) (.int .i64 wst))
  have F12 := (F9.kept g10 (by omega)).kept g12 (by omega)
  have U12 := (U9.kept g10 (by omega)).kept g12 (by omega)
  have S12 := (S9.kept g10 (by omega)).kept g12 (by omega)
  have M12 := (om9.kept g10 (by omega)).kept g12 (by omega)
  have qd := F12.peers.rdp
  rw [HQS.out] at qd
  have RR : Hid (RdW _ _ _ _ _ _ _ ⟨nm, now, full, wd, room, its, ts, ps, bs, ss, ms, wst⟩) := ⟨F12.store.rdi, Reads.of_row F12.store.pins, qd, U12.rdb, S12.rds, M12.rdm⟩
  clear K9 A9 C9 B9 F9 U9 S9 L9 L10 g9 g10 C10 g12 B10 F12 U12 S12 M12 qd om9 hb9 HL8 HP18 HP28 HQ8 HR8 HU8 HS8 HQS
  go_wp2
  rw [set12_def]
  refine bodyPost_ret (v := wval nm now full wd room (.slice a1 its.length c1) (.slice b1 ts.length d1) (.slice e1 ps.length f1) (.slice au5 bs.length cu5) (.slice as7 ss.length cs7) (.slice am9 ms.length cm9) wst) (by simp [results, Try.results12, go_sem, ZZ.out.cell]) rfl ⟨_, _, _, _, _, _, rfl, RR.out, BB.out⟩
end Go.Proofs.Ytiflibkabmkloaa
