import Derived.Test.YtlnkhbnbcmllaaaGreatPeers
import Derived.Test.YtlnkhbnbcmllaaaGreatFetchTo
import Derived.Test.YtlnkhbnbcmllaaaGreatWorldMark
/- Fetches as arguments: how large they are. -/
namespace Go.Proofs.YtlnkhbnbcmllaaaGreat
open Go.RowKit
end Go.Proofs.YtlnkhbnbcmllaaaGreat
/- How large arguments are, and how much of the room they take. -/
namespace Go.Proofs.YtlnkhbnbcmllaaaGreat
open Go.RowKit
theorem totP_cut (ps : Prs) (i : Nat) (h : i < ps.length) : totP (ps.take (i + 1)) = totP (ps.take i) + (4 + (pat ps i).nots.length) := by
  rw [List.take_succ_eq_append_getElem h, totP_append]
  simp [totP, pat, h]
set_option maxRecDepth 100000 in
set_option maxHeartbeats 1000000 in
theorem szStrsT_any (v : Value) (ts : List ByteArray) (L : Nat) (w : World) (hv : Reads w v ts) (hl : ts.length ≤ maxLen) (hsz : ∀ i, (tv ts i).size ≤ maxLen) (hL : L ≤ 1048576) :
    Calls Tryz.prog 42 #[v, .int .i64 L] w fun e w' => ∃ r : Int, e = .returned (.int .i64 r) ∧ r ≤ L ∧ (0 ≤ r → r + (ts.length : Int) ≤ L ∧ ∀ i, (tv ts i).size ≤ L) ∧ w' = w := by
  unfold maxLen at hl
  obtain ⟨a, ca, rfl, hca⟩ := hv.form
  by_cases h1 : L < ts.length
  · have h1' : (L : Int) - (ts.length : Int) < 0 := by omega
    go_enter Tryz.func42, Tryz.ntmps42
    go_wp2
    go_ret
    exact ⟨-1, rfl, by omega, fun h => by omega, rfl⟩
  · have h1' : ¬ ((L : Int) - (ts.length : Int) < 0) := by omega
    have HC : Hid (∀ i, i < ts.length → ∃ b off, a = some ⟨b, off, none⟩ ∧ b < w.heap.size ∧ w.cell? ⟨b, off + i, none⟩ = some (.string (tv ts i))) := hca
    have HSZ := hid hsz
    clear hca hv hsz
    go_enter Tryz.func42, Tryz.ntmps42
    go_wp2
    go_loop [1, 5] (fun l' i' => ∃ l i : Nat, i ≤ ts.length ∧ i' = .int .i64 i ∧ l' = .int .i64 l ∧ l + ts.length ≤ L ∧ ∀ k, k < i → (tv ts k).size ≤ L) (fun _ i' => ts.length - (intOf i').toNat)
    case atStart => exact ⟨L - ts.length, 0, Nat.zero_le _, rfl, by go_num, by omega, fun k hk => by omega⟩
    case round =>
      obtain ⟨l, i, hi, rfl, rfl, hll, hs⟩ := hrel
      have HS := hid hs
      clear hs
      by_cases hil : i < ts.length
      · obtain ⟨b, o, rfl, hb, hc⟩ := HC.out i hil
        have hz := HSZ.out i
        generalize hti : tv ts i = t at *
        have HTI := hid hti
        clear hti
        unfold maxLen at hz
        by_cases hlt : l < t.size
        · have hlt' : (l : Int) - (t.size : Int) < 0 := by omega
          go_wp2
          go_ret
          exact ⟨-1, rfl, by omega, fun h => by omega, rfl⟩
        · have hlt' : ¬ ((l : Int) - (t.size : Int) < 0) := by omega
          go_wp2
          go_round
          case rel => exact ⟨l - t.size, i + 1, by omega, by go_num, by go_num, by omega, fun k hk => (Nat.lt_or_eq_of_le (Nat.le_of_lt_succ hk)).elim (HS.out k) (fun e => by rw [e, HTI.out]; omega)⟩
          case measure => simp [intOf]; omega
      · obtain rfl : i = ts.length := by omega
        go_wp2
        go_ret
        refine ⟨_, rfl, by omega, fun _ => ⟨by omega, fun k => ?_⟩, rfl⟩
        by_cases hk : k < ts.length
        · exact HS.out k hk
        · have : tv ts k = ByteArray.empty := by simp [tv, hk]
          rw [this]; simp
set_option maxRecDepth 100000 in
set_option maxHeartbeats 1000000 in
theorem szItemT_any (v : Value) (its : Itms) (L : Nat) (w : World) (hv : RdI w v its) (hl : its.length ≤ maxLen) (hsz : ∀ i, (itx its i).size ≤ maxLen) (hL : L ≤ 1048576) :
    Calls Tryz.prog 41 #[v, .int .i64 L] w fun e w' => ∃ r : Int, e = .returned (.int .i64 r) ∧ r ≤ L ∧ (0 ≤ r → r + (its.length : Int) ≤ L ∧ ∀ i, (itx its i).size ≤ L) ∧ Below w.heap.size w w' := by
  unfold maxLen at hl
  obtain ⟨a, ca, rfl, hca⟩ := hv
  by_cases h1 : L < its.length
  · have h1' : (L : Int) - (its.length : Int) < 0 := by omega
    go_enter Tryz.func41, Tryz.ntmps41
    go_wp2
    go_ret
    exact ⟨-1, rfl, by omega, fun h => by omega, Below.refl _ _⟩
  · have h1' : ¬ ((L : Int) - (its.length : Int) < 0) := by omega
    have HC := hid hca
    have HSZ := hid hsz
    clear hca hsz
    go_enter Tryz.func41, Tryz.ntmps41
    go_wp2
    go_loopw [1, 5] (fun l' i' wr => ∃ l i : Nat, i ≤ its.length ∧ i' = .int .i64 i ∧ l' = .int .i64 l ∧ l + its.length ≤ L ∧ (∀ k, k < i → (itx its k).size ≤ L) ∧ Below w.heap.size w wr) (fun _ i' _ => its.length - (intOf i').toNat)
    case atStart => exact ⟨L - its.length, 0, Nat.zero_le _, rfl, by go_num, by omega, fun k hk => by omega, Below.refl _ _⟩
    case round =>
      obtain ⟨l, i, hi, rfl, rfl, hll, hs, hb⟩ := hrel
      have HS := hid hs
      clear hs
      by_cases hil : i < its.length
      · obtain ⟨b, o, rfl, hbw, hc1, hc2⟩ := HC.out i hil
        have hd1 := (hb.cell (p := ⟨b, o + i * 2, none⟩) hbw).trans hc1
        have hd2 := (hb.cell (p := ⟨b, o + i * 2 + 1, none⟩) hbw).trans hc2
        have hz := HSZ.out i
        have HZI := hid fun W => szItem_any (itx its i) (itu its i) l W hz (by omega)
        generalize hti : itx its i = t at *
        generalize itu its i = u at *
        have HTI := hid hti
        have HB := hid hb
        clear hti hc1 hc2 hb
        by_cases hlt : l < t.size
        · simp only [if_pos hlt] at HZI
          go_wp2_with fail
          refine (HZI.out _).mono ?_
          rintro e w1 ⟨r, rfl, rfl, hb1⟩
          have hb2 := hid (HB.out.trans (hb1.mono HB.out.size))
          clear hb1
          go_wp2
          go_ret
          exact ⟨-1, rfl, by omega, fun h => by omega, hb2.out⟩
        · simp only [if_neg hlt] at HZI
          go_wp2_with fail
          refine (HZI.out _).mono ?_
          rintro e w1 ⟨r, rfl, rfl, hb1⟩
          have hb2 := hid (HB.out.trans (hb1.mono HB.out.size))
          have hnn : ¬ (((l - t.size : Nat) : Int) < 0) := by omega
          clear hb1
          go_wp2
          refine ⟨⟨l - t.size, i + 1, by omega, by go_num, by go_num, by omega, fun k hk => (Nat.lt_or_eq_of_le (Nat.le_of_lt_succ hk)).elim (HS.out k) (fun e => by rw [e, HTI.out]; omega), hb2.out⟩, by simp [intOf]; omega⟩
      · obtain rfl : i = its.length := by omega
        go_wp2
        go_ret
        refine ⟨_, rfl, by omega, fun _ => ⟨by omega, fun k => ?_⟩, hb⟩
        by_cases hk : k < its.length
        · exact HS.out k hk
        · have : itx its k = ByteArray.empty := by simp [itx, hk]
          rw [this]; simp
set_option maxRecDepth 100000 in
set_option maxHeartbeats 400000 in
theorem szPeerT_any (a b c : Int) (s : ByteArray) (v : Value) (ts : List ByteArray) (L : Nat) (w : World) (hv : Reads w v ts) (hs : s.size ≤ maxLen) (hl : ts.length ≤ maxLen) (hsz : ∀ i, (tv ts i).size ≤ maxLen) (hL : L ≤ 1048576) :
    Calls Tryz.prog 43 #[.agg #[.int .i64 a, .int .i64 b, .int .i64 c, .string s, v], .int .i64 L] w fun e w' => ∃ r : Int, e = .returned (.int .i64 r) ∧ r ≤ L ∧ (0 ≤ r → s.size ≤ L ∧ r + (ts.length : Int) ≤ L ∧ ∀ i, (tv ts i).size ≤ L) ∧ Below w.heap.size w w' := by
  unfold maxLen at hs
  have hA := (Below.refl w.heap.size w).alloc (Nat.le_refl _) (.cells #[.int .i64 a, .int .i64 b, .int .i64 c, .string s, v] 78)
  have HS := hid fun (K : Nat) (hK : K ≤ 1048576) => szStrsT_any v ts K _ (hv.below hA) hl hsz hK
  have HA := hid hA
  obtain ⟨av, cv, rfl, _⟩ := hv.form
  clear hv hA hsz
  by_cases h1 : L < s.size
  · have h1' : (L : Int) - (s.size : Int) < 0 := by omega
    go_enter Tryz.func43, Tryz.ntmps43
    go_wp2
    go_ret
    exact ⟨-1, rfl, by omega, fun h => by omega, HA.out⟩
  · have h1' : ¬ ((L : Int) - (s.size : Int) < 0) := by omega
    have h2 : IntKind.i64.wrap ((L : Int) - (s.size : Int)) = ((L - s.size : Nat) : Int) := by rw [IntKind.wrap_i64]; omega
    have h3 : (L : Int) - (s.size : Int) = ((L - s.size : Nat) : Int) := by omega
    have HS1 := hid (HS.out (L - s.size) (by omega))
    rw [← h3] at HS1
    clear h2 h3
    go_enter Tryz.func43, Tryz.ntmps43
    go_wp2_with fail
    refine HS1.out.mono ?_
    rintro e w1 ⟨r, rfl, hr1, hr, rfl⟩
    have HR := hid hr
    clear hr
    by_cases h0 : r < 0
    · go_wp2
      go_ret
      exact ⟨-1, rfl, by omega, fun h => by omega, HA.out⟩
    · go_wp2
      go_ret
      exact ⟨r, rfl, by omega, fun h => ⟨by omega, by have := (HR.out h).1; omega, fun i => by have := (HR.out h).2 i; omega⟩, HA.out⟩
set_option maxRecDepth 100000 in
set_option maxHeartbeats 1000000 in
theorem szPeersT_any (v : Value) (ps : Prs) (L : Nat) (w : World) (hv : RdP w v ps) (hl : ps.length ≤ maxLen) (hf : PsFit maxLen ps) (hL : L ≤ 1048576) :
    Calls Tryz.prog 18 #[v, .int .i64 L] w fun e w' => ∃ r : Int, e = .returned (.int .i64 r) ∧ r ≤ L ∧ (0 ≤ r → r + (totP ps : Int) ≤ (L : Int) + 3 * (ps.length : Int) ∧ ps.length ≤ L ∧ PsFit L ps) ∧ Below w.heap.size w w' := by
  unfold maxLen at hl
  obtain ⟨a, ca, rfl, hca⟩ := hv
  by_cases h1 : L < ps.length
  · have h1' : (L : Int) - (ps.length : Int) < 0 := by omega
    go_enter Tryz.func18, Tryz.ntmps18
    go_wp2
    go_ret
    exact ⟨-1, rfl, by omega, fun h => by omega, Below.refl _ _⟩
  · have h1' : ¬ ((L : Int) - (ps.length : Int) < 0) := by omega
    have HC := hid hca
    have HF := hid hf
    clear hca hf
    go_enter Tryz.func18, Tryz.ntmps18
    go_wp2
    go_loopw [1, 5] (fun l' i' wr => ∃ l i : Nat, i ≤ ps.length ∧ i' = .int .i64 i ∧ l' = .int .i64 l ∧ (l ≤ L ∧ l + ps.length + totP (ps.take i) ≤ L + 4 * i) ∧ (∀ k, k < i → PrFits L (pat ps k)) ∧ Below w.heap.size w wr) (fun _ i' _ => ps.length - (intOf i').toNat)
    case atStart => exact ⟨L - ps.length, 0, Nat.zero_le _, rfl, by go_num, ⟨by omega, by show L - ps.length + ps.length + 0 ≤ L + 4 * 0; omega⟩, fun k hk => by omega, Below.refl _ _⟩
    case round =>
      obtain ⟨l, i, hi, rfl, rfl, ⟨hll, htt⟩, hs, hb⟩ := hrel
      have HS := hid hs
      clear hs
      by_cases hil : i < ps.length
      · obtain ⟨b, o, vn, rfl, h5⟩ := HC.out i hil
        have g5 := h5.below hb
        have hfi := HF.out i hil
        have HTK := hid (totP_cut ps i hil)
        have HTT := hid htt
        have HZI := hid fun W h => szPeerT_any (pat ps i).lies (pat ps i).wait (pat ps i).last (pat ps i).asked vn (pat ps i).nots l W h hfi.asked hfi.nots hfi.each (by omega)
        obtain ⟨x0, x1, x2, x3, x4, x5, x6⟩ := g5
        have HX6 := hid x6
        obtain ⟨a4, c4, hvn, _⟩ := x6.form
        have hpf : Hid (∀ n, (pat ps i).asked.size ≤ n → (pat ps i).nots.length ≤ n → (∀ j, (tv (pat ps i).nots j).size ≤ n) → PrFits n (pat ps i)) := fun n a b c => ⟨a, b, c⟩
        have HB := hid hb
        generalize (pat ps i).lies = zl at *
        generalize (pat ps i).wait = zw at *
        generalize (pat ps i).last = zt at *
        generalize (pat ps i).asked = za at *
        generalize (pat ps i).nots = zn at *
        subst hvn
        clear h5 x6 hb hfi htt
        go_wp2_with fail
        refine (HZI.out _ HX6.out).mono ?_
        rintro e w1 ⟨r, rfl, hr1, hr, hb1⟩
        have hb2 := hid (HB.out.trans (hb1.mono HB.out.size))
        have HR := hid hr
        clear hb1 hr
        by_cases h0 : r < 0
        · go_wp2
          go_ret
          exact ⟨-1, rfl, by omega, fun h => by omega, hb2.out⟩
        · obtain ⟨l2, rfl⟩ := Int.eq_ofNat_of_zero_le (show 0 ≤ r by omega)
          go_wp2
          refine ⟨⟨l2, i + 1, by omega, by go_num, rfl, ⟨by omega, by have h9 := (HR.out (by omega)).2.1; have e1 := HTK.out; have e2 := HTT.out; omega⟩, fun k hk => (Nat.lt_or_eq_of_le (Nat.le_of_lt_succ hk)).elim (HS.out k) (fun e => ?_), hb2.out⟩, by simp [intOf]; omega⟩
          have h9 := HR.out (by omega)
          subst e
          exact hpf.out L (by omega) (by omega) (fun j => by have := h9.2.2 j; omega)
      · obtain rfl : i = ps.length := by omega
        go_wp2
        go_ret
        exact ⟨_, rfl, by omega, fun _ => ⟨by rw [List.take_length] at htt; omega, by omega, HS.out⟩, hb⟩
set_option maxRecDepth 100000 in
set_option maxHeartbeats 400000 in
theorem szStoreT_any (wd room : Int) (vi vp : Value) (its : Itms) (ts : List ByteArray) (K : Nat) (w : World) (hi : RdI w vi its) (hp : Reads w vp ts) (hli : its.length ≤ maxLen) (hlp : ts.length ≤ maxLen) (hsi : ∀ i, (itx its i).size ≤ maxLen) (hsp : ∀ i, (tv ts i).size ≤ maxLen) (hK : K ≤ 1048576) :
    Calls Tryz.prog 17 #[.agg #[.int .i64 wd, .int .i64 room, vi, vp], .int .i64 K] w fun e w' => ∃ r : Int, e = .returned (.int .i64 r) ∧ r ≤ K ∧ (0 ≤ r → r + (its.length : Int) + (ts.length : Int) ≤ K ∧ its.length ≤ K ∧ (∀ i, (itx its i).size ≤ K) ∧ ts.length ≤ K ∧ ∀ i, (tv ts i).size ≤ K) ∧ Below w.heap.size w w' := by
  have hA := (Below.refl w.heap.size w).alloc (Nat.le_refl _) (.cells #[.int .i64 wd, .int .i64 room, vi, vp] 25)
  have HI := hid (szItemT_any vi its K _ (hi.below hA) hli hsi hK)
  have HP := hid fun (L : Nat) (hL : L ≤ 1048576) W h => szStrsT_any vp ts L W h hlp hsp hL
  have HRP := hid (hp.below hA)
  have HN := hid (Blk.new w 25 #[.int .i64 wd, .int .i64 room, vi, vp])
  have HA := hid hA
  obtain ⟨ai, ci, rfl, _⟩ := hi
  obtain ⟨ap, cp, rfl, _⟩ := hp.form
  clear hp hsi hsp hA
  go_enter Tryz.func17, Tryz.ntmps17
  go_wp2_with fail
  refine HI.out.mono ?_
  rintro e w1 ⟨r, rfl, hr1, hr, hb1⟩
  have B1 := HA.out.trans (hb1.mono (by simp))
  by_cases h0 : r < 0
  · clear hr
    have HB := hid B1
    clear hb1 B1
    go_wp2
    go_ret
    exact ⟨-1, rfl, by omega, fun h => by omega, HB.out⟩
  · obtain ⟨hl1, hs1⟩ := hr (by omega)
    obtain ⟨L, rfl⟩ := Int.eq_ofNat_of_zero_le (show 0 ≤ r by omega)
    have HP1 := hid (HP.out L (by omega) w1 (HRP.out.below hb1))
    have N1 := HN.out.below hb1
    have c3 : w1.cell? ⟨w.heap.size, 3, none⟩ = some (.slice ap ts.length cp) := N1.cell 3
    have HB := hid B1
    have HL1 := hid hl1
    have HS1 := hid hs1
    clear hb1 B1 hr hl1 hs1 N1
    go_wp2_with fail
    refine HP1.out.mono ?_
    rintro e w2 ⟨r2, rfl, hr2, hrr, rfl⟩
    have HRR := hid hrr
    clear hrr
    by_cases h2 : r2 < 0
    · go_wp2
      go_ret
      exact ⟨-1, rfl, by omega, fun h => by omega, HB.out⟩
    · go_wp2
      go_ret
      exact ⟨r2, rfl, by omega, fun h => ⟨by have a1 := HL1.out; have a2 := (HRR.out h).1; omega, by have a1 := HL1.out; omega, HS1.out, by have a2 := (HRR.out h).1; omega, fun i => Nat.le_trans ((HRR.out h).2 i) (by omega)⟩, HB.out⟩
end Go.Proofs.YtlnkhbnbcmllaaaGreat
/- How large a fetch and stores are, and how much room is left. -/
namespace Go.Proofs.YtlnkhbnbcmllaaaGreat
open Go.RowKit
set_option maxRecDepth 100000 in
set_option maxHeartbeats 1000000 in
theorem szFetchR_any (nm : ByteArray) (now : Int) (full : Bool) (wd room : Int) (vi vp vq : Value) (its : Itms) (ts : List ByteArray) (ps : Prs) (w : World) (hi : RdI w vi its) (hp : Reads w vp ts) (hq : RdP w vq ps) (hnm : nm.size ≤ maxLen) (hli : its.length ≤ maxLen) (hlp : ts.length ≤ maxLen) (hlq : ps.length ≤ maxLen) (hsi : ∀ i, (itx its i).size ≤ maxLen) (hsp : ∀ i, (tv ts i).size ≤ maxLen) (hf : PsFit maxLen ps) :
    Calls Tryz.prog 4 #[fval nm now full wd room vi vp vq, .int .i64 1048576] w fun e w' => ∃ r : Int, e = .returned (.int .i64 r) ∧ r ≤ 1048576 ∧ (0 ≤ r → 4 * r + ((2 * its.length + ts.length + totP ps : Nat) : Int) ≤ 4194304 ∧ nm.size ≤ 1048576 ∧ its.length ≤ 1048576 ∧ (∀ i, (itx its i).size ≤ 1048576) ∧ ts.length ≤ 1048576 ∧ (∀ i, (tv ts i).size ≤ 1048576) ∧ ps.length ≤ 1048576 ∧ PsFit 1048576 ps) ∧ Below w.heap.size w w' := by
  unfold maxLen at hnm
  have hA := (Below.refl w.heap.size w).alloc (Nat.le_refl _) (.cells (fcells nm now full wd room vi vp vq) 28)
  have HS := hid fun (K : Nat) (hK : K ≤ 1048576) => szStoreT_any wd room vi vp its ts K _ (hi.below hA) (hp.below hA) hli hlp hsi hsp hK
  have HP := hid fun (K : Nat) (hK : K ≤ 1048576) W h => szPeersT_any vq ps K W h hlq hf hK
  have HQ := hid (hq.below hA)
  have HN := hid (Blk.new w 28 (fcells nm now full wd room vi vp vq))
  have HA := hid hA
  obtain ⟨ai, ci, rfl, _⟩ := hi
  obtain ⟨ap, cp, rfl, _⟩ := hp.form
  obtain ⟨aq, cq, rfl, _⟩ := hq
  clear hp hsi hsp hA hf
  by_cases h1 : 1048576 < nm.size
  · have h1' : (1048576 : Int) - (nm.size : Int) < 0 := by omega
    go_enter Tryz.func4, Tryz.ntmps4
    go_wp2
    go_ret
    exact ⟨-1, rfl, by omega, fun h => by omega, HA.out⟩
  have h1' : ¬ ((1048576 : Int) - (nm.size : Int) < 0) := by omega
  have h3 : (1048576 : Int) - (nm.size : Int) = ((1048576 - nm.size : Nat) : Int) := by omega
  have HS1 := hid (HS.out (1048576 - nm.size) (by omega))
  rw [← h3] at HS1
  clear h3 HS
  go_enter Tryz.func4, Tryz.ntmps4
  go_wp2_with fail
  refine HS1.out.mono ?_
  rintro e w1 ⟨r, rfl, hr1, hr, hb1⟩
  have B1 := HA.out.trans (hb1.mono (by simp))
  have HR := hid hr
  by_cases h0 : r < 0
  · have HB := hid B1
    clear hb1 B1 hr
    go_wp2
    go_ret
    exact ⟨-1, rfl, by omega, fun h => by omega, HB.out⟩
  obtain ⟨L, rfl⟩ := Int.eq_ofNat_of_zero_le (show 0 ≤ r by omega)
  have HP1 := hid (HP.out L (by omega) w1 (HQ.out.below hb1))
  have N1 := HN.out.below hb1
  have c7 : w1.cell? ⟨w.heap.size, 7, none⟩ = some (.slice aq ps.length cq) := N1.cell 7
  have HB := hid B1
  clear hb1 B1 hr N1
  go_wp2_with fail
  refine HP1.out.mono ?_
  rintro e w2 ⟨r2, rfl, hr2, hrr, hb2⟩
  have HRR := hid hrr
  have HB2 := hid (HB.out.trans (hb2.mono HB.out.size))
  clear hrr hb2
  by_cases h2 : r2 < 0
  · go_wp2
    go_ret
    exact ⟨-1, rfl, by omega, fun h => by omega, HB2.out⟩
  · go_wp2
    go_ret
    refine ⟨r2, rfl, by omega, fun h => ?_, HB2.out⟩
    have g := HR.out (by omega)
    have k := HRR.out h
    obtain ⟨g0, g1, g2, g3, g4⟩ := g
    obtain ⟨k0, k1, k2⟩ := k
    have kg := totP_ge ps
    exact ⟨by omega, by omega, by omega, fun i => by have := g2 i; omega, by omega, fun i => by have := g4 i; omega, by omega, fun i hi => ⟨Nat.le_trans (k2 i hi).asked (by omega), Nat.le_trans (k2 i hi).nots (by omega), fun j => Nat.le_trans ((k2 i hi).each j) (by omega)⟩⟩
set_option maxRecDepth 100000 in
set_option maxHeartbeats 1000000 in
theorem szStoreR_any (v : Value) (ss : Srs) (L : Nat) (w : World) (hv : RdS w v ss) (hl : ss.length ≤ maxLen) (hf : SsFit maxLen ss) (hL : L ≤ 1048576) :
    Calls Tryz.prog 5 #[v, .int .i64 L] w fun e w' => ∃ r : Int, e = .returned (.int .i64 r) ∧ r ≤ L ∧ (0 ≤ r → 2 * r + (totR ss : Int) ≤ 2 * (L : Int) ∧ ss.length ≤ L ∧ SsFit L ss) ∧ Below w.heap.size w w' := by
  unfold maxLen at hl
  obtain ⟨a, ca, rfl, hca⟩ := hv
  by_cases h1 : L < ss.length
  · have h1' : (L : Int) - (ss.length : Int) < 0 := by omega
    go_enter Tryz.func5, Tryz.ntmps5
    go_wp2
    go_ret
    exact ⟨-1, rfl, by omega, fun h => by omega, Below.refl _ _⟩
  · have h1' : ¬ ((L : Int) - (ss.length : Int) < 0) := by omega
    have HC := hid hca
    have HF := hid hf
    clear hca hf
    go_enter Tryz.func5, Tryz.ntmps5
    go_wp2
    go_loopw [1, 5] (fun l' i' wr => ∃ l i : Nat, i ≤ ss.length ∧ i' = .int .i64 i ∧ l' = .int .i64 l ∧ l ≤ L ∧ 2 * l + totR (ss.take i) + 2 * ss.length ≤ 2 * L + 2 * i ∧ (∀ k, k < i → SrFits L (sat ss k)) ∧ Below w.heap.size w wr) (fun _ i' _ => ss.length - (intOf i').toNat)
    case atStart => exact ⟨L - ss.length, 0, Nat.zero_le _, rfl, by go_num, by omega, by simp [totR]; omega, fun k hk => by omega, Below.refl _ _⟩
    case round =>
      obtain ⟨l, i, hi, rfl, rfl, hll, htt, hs, hb⟩ := hrel
      have HS := hid hs
      clear hs
      by_cases hil : i < ss.length
      · obtain ⟨b, o, vi, vp, rfl, h5⟩ := HC.out i hil
        have g5 := h5.below hb
        have hfi := HF.out i hil
        have HZI := hid fun W h k => szStoreT_any (sat ss i).wd (sat ss i).room vi vp (sat ss i).its (sat ss i).ts l W h k hfi.its hfi.ts hfi.each hfi.tach (by omega)
        obtain ⟨x0, x1, x2, x3, x4, x5, x6⟩ := g5
        have HX5 := hid x5
        have HX6 := hid x6
        obtain ⟨a4, c4, hvi, _⟩ := id x5
        obtain ⟨a6, c6, hvp, _⟩ := x6.form
        have hpf : Hid (∀ n, (sat ss i).its.length ≤ n → (∀ j, (itx (sat ss i).its j).size ≤ n) → (sat ss i).ts.length ≤ n → (∀ j, (tv (sat ss i).ts j).size ≤ n) → SrFits n (sat ss i)) := fun n a b c d => ⟨a, b, c, d⟩
        have HTK : Hid (totR (ss.take (i + 1)) = totR (ss.take i) + (2 + 2 * (sat ss i).its.length + (sat ss i).ts.length)) := hid (totR_take ss i hil)
        have HB := hid hb
        generalize (sat ss i).wd = zwd at *
        generalize (sat ss i).room = zroom at *
        generalize (sat ss i).its = zits at *
        generalize (sat ss i).ts = zts at *
        subst hvi hvp
        clear h5 hb hfi x5 x6
        go_wp2_with fail
        refine (HZI.out _ HX5.out HX6.out).mono ?_
        rintro e w1 ⟨r, rfl, hr1, hr, hb1⟩
        have hb2 := hid (HB.out.trans (hb1.mono HB.out.size))
        have HR := hid hr
        clear hb1 hr
        by_cases h0 : r < 0
        · go_wp2
          go_ret
          exact ⟨-1, rfl, by omega, fun h => by omega, hb2.out⟩
        · obtain ⟨l2, rfl⟩ := Int.eq_ofNat_of_zero_le (show 0 ≤ r by omega)
          go_wp2
          refine ⟨⟨l2, i + 1, by omega, by go_num, rfl, by omega, by have h9 := HR.out (by omega); have hk := HTK.out; omega, fun k hk => (Nat.lt_or_eq_of_le (Nat.le_of_lt_succ hk)).elim (HS.out k) (fun e => ?_), hb2.out⟩, by simp [intOf]; omega⟩
          have h9 := HR.out (by omega)
          subst e
          exact hpf.out L (by omega) (fun j => by have := h9.2.2.1 j; omega) (by omega) (fun j => by have := h9.2.2.2.2 j; omega)
      · obtain rfl : i = ss.length := by omega
        go_wp2
        go_ret
        rw [List.take_length] at htt
        exact ⟨_, rfl, by omega, fun _ => ⟨by omega, by omega, HS.out⟩, hb⟩
end Go.Proofs.YtlnkhbnbcmllaaaGreat
