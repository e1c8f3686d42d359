/- laws.FnExactNewWorld: the walk. -/
import Derived.Test.YtlnkhbnbcmllaaaGreatImplNew
import Derived.Test.YtlnkhbnbcmllaaaGreatSizeWorld
import Derived.Test.YtlnkhbnbcmllaaaGreatPeersHeld
namespace Go.Proofs.YtlnkhbnbcmllaaaGreat
open Go.RowKit
theorem new_y {x y y' : Wd} (h : ValidW x ∧ y = x ∨ ¬ ValidW x ∧ y = wd0) (k : ValidW x ∧ y' = x ∨ ¬ ValidW x ∧ y' = wd0) : y' = y := by
  rcases h with ⟨h1, rfl⟩ | ⟨h1, rfl⟩ <;> rcases k with ⟨k1, rfl⟩ | ⟨k1, rfl⟩
  · rfl
  · exact absurd h1 k1
  · exact absurd k1 h1
  · rfl
theorem fits_up {x : Wd} (h : WFits 1048576 x) : WFits maxLen x := by
  have hm : 1048576 ≤ maxLen := by unfold maxLen; omega
  have t : ∀ {n : Nat}, n ≤ 1048576 → n ≤ maxLen := fun k => Nat.le_trans k hm
  exact ⟨t h.nm, t h.li, fun i => t (h.si i), t h.lp, fun i => t (h.sp i), t h.lq, fun i hi => ⟨t (h.fq i hi).asked, t (h.fq i hi).nots, fun j => t ((h.fq i hi).each j)⟩, t h.lu, t h.ls, fun i hi => ⟨t (h.fs i hi).its, fun j => t ((h.fs i hi).each j), t (h.fs i hi).ts, fun j => t ((h.fs i hi).tach j)⟩, t h.lm, fun i hi => ⟨t (h.fm i hi).sum, t (h.fm i hi).text⟩⟩
theorem y_fits {x y : Wd} (h : ValidW x ∧ y = x ∨ ¬ ValidW x ∧ y = wd0) (hf : WFits 1048576 x) : WFits maxLen y := by
  rcases h with ⟨_, rfl⟩ | ⟨_, rfl⟩
  · exact fits_up hf
  · exact ⟨by simp [wd0, ByteArray.size], by simp [wd0], fun i => by simp [wd0, itx], by simp [wd0], fun i => by simp [wd0, tv], by simp [wd0], fun i h => absurd h (by simp [wd0]), by simp [wd0], by simp [wd0], fun i h => absurd h (by simp [wd0]), by simp [wd0], fun i h => absurd h (by simp [wd0])⟩
theorem totP_most (n : Nat) : ∀ ps : Prs, (∀ i, i < ps.length → (pat ps i).nots.length ≤ n) → totP ps ≤ ps.length * (4 + n)
  | [], _ => by simp [totP]
  | p :: r, h => by
    have h0 := h 0 (by simp)
    have ih := totP_most n r (fun i hi => by have := h (i + 1) (by simpa using hi); exact this)
    have e : pat (p :: r) 0 = p := rfl
    rw [e] at h0
    simp only [totP, List.length_cons, Nat.succ_mul]
    omega
theorem totR_most (n : Nat) : ∀ ss : Srs, (∀ i, i < ss.length → onR (sat ss i) ≤ n) → totR ss ≤ ss.length * n
  | [], _ => by simp [totR]
  | p :: r, h => by
    have h0 := h 0 (by simp)
    have ih := totR_most n r (fun i hi => by have := h (i + 1) (by simpa using hi); exact this)
    have e : sat (p :: r) 0 = p := rfl
    rw [e] at h0
    simp only [totR, List.length_cons, Nat.succ_mul]
    omega
theorem y_tot {nm : ByteArray} {now : Int} {full : Bool} {wd room : Int} {its : Itms} {ts : List ByteArray} {ps : Prs} {ss : Srs} {y : Wd} (h : ValidW (newW nm now full wd room its ts ps ss) ∧ y = (newW nm now full wd room its ts ps ss) ∨ ¬ ValidW (newW nm now full wd room its ts ps ss) ∧ y = wd0) : totW y.its y.ts y.ps y.bs y.ss ≤ 4200000 := by
  rcases h with ⟨hv, rfl⟩ | ⟨_, rfl⟩
  · have h1 : its.length ≤ 1000 := hv.fetch.store.items
    have h2 : ts.length ≤ 10 := hv.fetch.store.pins
    have h3 : ps.length ≤ 5 := hv.fetch.count.2
    have h4 : ss.length = ps.length := hv.many
    have h5 := totP_most 376 ps (fun i hi => (hv.fetch.each i hi).many)
    have h6 := totR_most 2012 ss (fun i hi => by have a : (sat ss i).its.length ≤ 1000 := (hv.each i hi).1.items; have b : (sat ss i).ts.length ≤ 10 := (hv.each i hi).1.pins; unfold onR; omega)
    show 2 * its.length + ts.length + totP ps + (List.replicate ps.length true).length + totR ss ≤ 4200000
    rw [List.length_replicate]
    omega
  · simp [totW, wd0, totP, totR]
theorem y_ms {nm : ByteArray} {now : Int} {full : Bool} {wd room : Int} {its : Itms} {ts : List ByteArray} {ps : Prs} {ss : Srs} {y : Wd} (h : ValidW (newW nm now full wd room its ts ps ss) ∧ y = (newW nm now full wd room its ts ps ss) ∨ ¬ ValidW (newW nm now full wd room its ts ps ss) ∧ y = wd0) : y.ms = [] := by
  rcases h with ⟨_, rfl⟩ | ⟨_, rfl⟩ <;> rfl
/-- An own world as it is read. -/
theorem WorldOwn.rdw {w : World} {B : Nat} {vi vp vq vu vs : Value} {qs : PV} {os : SV} {y : Wd} (h : WorldOwn w B vi vp vq vu vs y.its y.ts qs y.bs os) (h1 : qs.map Prod.fst = y.ps) (h2 : os.map Prod.fst = y.ss) (h3 : y.ms = []) : RdW w vi vp vq vu vs (.slice .none 0 0) y := by
  refine ⟨h.fetch.store.rdi, Reads.of_row h.fetch.store.pins, ?_, rdb_row h.bools, ?_, ?_⟩
  · rw [← h1]; exact h.fetch.peers.rdp
  · rw [← h2]; exact h.stores.rds
  · rw [h3]; exact ⟨_, _, rfl, fun i h => absurd h (by simp)⟩
theorem WorldOwn.keep {w w' : World} {B : Nat} {T : Nat → Prop} {vi vp vq vu vs : Value} {its : Itms} {ts : List ByteArray} {qs : PV} {bs : List Bool} {ss : SV} (h : WorldOwn w B vi vp vq vu vs its ts qs bs ss) (k : Kept w w' T) (ht : ∀ b, T b → b < B) : WorldOwn w' B vi vp vq vu vs its ts qs bs ss :=
  h.same fun b hb => k.block b (h.lt b hb).2 (fun t => by have := ht b t; have := (h.lt b hb).1; omega)
theorem Kept.blk {w w' : World} {T : Nat → Prop} {b : Nat} {t : TypeId} {cs : Array Value} (k : Kept w w' T) (h : Blk w b t cs) (ht : ¬ T b) : Blk w' b t cs := (k.block b h.lt ht).trans h
theorem held_own (y : Wd) (vi vp vq vu vs : Value) (B : Nat) (qs : PV) (os : SV) (W : World) (h1 : qs.map Prod.fst = y.ps) (h2 : os.map Prod.fst = y.ss) (hl : totW y.its y.ts y.ps y.bs y.ss ≤ 4200000) (h : WorldOwn W B vi vp vq vu vs (marksI 1 y.its.length) (marks (1 + 2 * y.its.length) y.ts.length) (marksQ (1 + 2 * y.its.length + y.ts.length) qs) (markU (1 + 2 * y.its.length + y.ts.length + totQ qs) y.bs.length) (marksT (1 + 2 * y.its.length + y.ts.length + totQ qs + y.bs.length) os)) :
    Calls Tryz.prog 16 #[wval y.nm y.now y.full y.wd y.room vi vp vq vu vs (.slice none 0 0) y.wst, .int .i64 1] W fun e w' => e = .returned (.int .i64 ((1 + totW y.its y.ts y.ps y.bs y.ss : Nat) : Int)) ∧ Below W.heap.size W w' := by
  have e : totQ qs = totP y.ps := congrArg totP h1
  have a := h.fetch.peers.rdp
  rw [marksQ_fst, h1] at a
  have b := rdb_row h.bools
  rw [e] at b
  have c := h.stores.rds
  rw [marksT_fst, h2, e] at c
  exact heldWorld_any y.nm y.now y.full y.wd y.room y.wst vi vp vq vu vs none 0 y.its.length y.ts.length y.bs.length y.ps y.ss W h.fetch.store.rdi (Reads.of_row h.fetch.store.pins) a b c hl
set_option maxRecDepth 100000 in
set_option maxHeartbeats 16000000 in
theorem newLaw_walk (nm : ByteArray) (now : Int) (full : Bool) (wd room : Int) (vi vp vq vs : Value) (its : Itms) (ts : List ByteArray) (ps : Prs) (ss : Srs) (w : World) (hi : RdI w vi its) (hp : Reads w vp ts) (hq : RdP w vq ps) (hs : RdS w vs ss) (hnm : nm.size ≤ maxLen) (hli : its.length ≤ maxLen) (hlp : ts.length ≤ maxLen) (hlq : ps.length ≤ maxLen) (hsi : ∀ i, (itx its i).size ≤ maxLen) (hsp : ∀ i, (tv ts i).size ≤ maxLen) (hf : PsFit maxLen ps) (hls : ss.length ≤ maxLen) (hfs : SsFit maxLen ss) :
    Calls Tryz.prog 3 #[fval nm now full wd room vi vp vq, vs] w fun e w' => e = .returned (.bool true) ∧ Below w.heap.size w w' := by
  have hA := (Below.refl w.heap.size w).alloc (Nat.le_refl _) (.cells (fcells nm now full wd room vi vp vq) 28)
  have HZ := hid (szFetchR_any nm now full wd room vi vp vq its ts ps _ (hi.below hA) (hp.below hA) (hq.below hA) hnm hli hlp hlq hsi hsp hf)
  have HZS := hid fun (L : Nat) (W : World) (h : RdS W vs ss) (hL : L ≤ 1048576) => szStoreR_any vs ss L W h hls hfs hL
  have HN := hid (Blk.new w 28 (fcells nm now full wd room vi vp vq))
  have HI := hid hi
  have HP := hid hp
  have HQ := hid hq
  have HS := hid hs
  have HA := hid hA
  obtain ⟨ai, ci, rfl, _⟩ := hi
  obtain ⟨ap, cp, rfl, _⟩ := hp.form
  obtain ⟨aq, cq, rfl, _⟩ := hq
  obtain ⟨ax, cx, rfl, _⟩ := hs
  have HFM := hid hf
  have HFS := hid hfs
  clear hp hA hsi hsp hf hnm hfs
  go_enter Tryz.func3, Tryz.ntmps3
  go_wp2_with fail
  refine HZ.out.mono ?_
  rintro e w1 ⟨r, rfl, hr1, hr, hb1⟩
  have B1 := HA.out.trans (hb1.mono (by simp))
  have X1 := HN.out.below hb1
  by_cases hneg : r < 0
  · have HB := hid B1
    clear hr hb1 B1 X1
    go_wp2
    go_ret
    exact ⟨by simp, HB.out⟩
  obtain ⟨L, rfl⟩ := Int.eq_ofNat_of_zero_le (show 0 ≤ r by omega)
  obtain ⟨tot1, n1, l1, s1, l2, s2, l3, ff⟩ := hr (by omega)
  have HZ2 := hid (HZS.out L w1 (HS.out.below B1) (by omega))
  have HB1 := hid B1
  have HX1 := hid X1
  clear hr hb1 B1 X1 HZ HZS hneg
  go_wp2_with fail
  refine HZ2.out.mono ?_
  rintro e w2 ⟨r2, rfl, hr2, hrr, hb2⟩
  have B2 := HB1.out.trans (hb2.mono HB1.out.size)
  by_cases hneg2 : r2 < 0
  · have HB := hid B2
    clear hrr hb2 B2
    go_wp2
    go_ret
    exact ⟨by simp, HB.out⟩
  obtain ⟨tot2, l4, sf⟩ := hrr (by omega)
  have sf : SsFit 1048576 ss := fun i hi => ⟨Nat.le_trans (sf i hi).its (by omega), fun j => Nat.le_trans ((sf i hi).each j) (by omega), Nat.le_trans (sf i hi).ts (by omega), fun j => Nat.le_trans ((sf i hi).tach j) (by omega)⟩
  have l4 : ss.length ≤ 1048576 := by omega
  have htot : 2 * its.length + ts.length + totP ps + totR ss ≤ 4194304 := by omega
  have HWF : Hid (WFits 1048576 (newW nm now full wd room its ts ps ss)) := hid ⟨n1, l1, s1, l2, s2, l3, ff, by simp; exact l3, l4, sf, by simp, fun i h => absurd h (by simp)⟩
  have HT := hid fun (W : World) (h : Below w.heap.size w W) => toFetch_any nm now full wd room (.slice ai its.length ci) (.slice ap ts.length cp) (.slice aq ps.length cq) its ts ps W (HI.out.below h) (HP.out.below h) (HQ.out.below h) l1 l2 l3 ff
  have HU := hid fun (W : World) (h : Below w.heap.size w W) => toStoreS2_any (.slice ax ss.length cx) ss W (HS.out.below h) l4 sf
  have HM := hid fun (a b c d : Value) (W : World) h1 h2 h3 h4 => implNewWorld_any nm now full wd room a b c d its ts ps ss W h1 h2 h3 h4 n1 l1 l2 l3 s1 s2 ff l4 sf
  have HSP := hid fun (a b c d : Value) (q : PV) (o : SV) (W : World) (h1 : FetchOwn W 0 a b c its ts q) (h2 : StoresOwn W 0 d o) (hq : q.map Prod.fst = ps) (ho : o.map Prod.fst = ss) => (by
    subst hq ho
    rw [List.length_map] at l3 l4
    exact specNewWorld_any nm now full wd room a b c d its ts q o W 0 h1 h2 l1 l2 l3 s1 s2 ff (fun i hi => by have := (ff i (by rw [List.length_map]; exact hi)).nots; rw [pat_map q i hi] at this; exact this) l4 sf : Calls Tryz.prog 6 #[fval nm now full wd room a b c, d] W fun e w' => NewWR (newW nm now full wd room its ts ps ss) W e w')
  have HEF := hid fun a b c d e f W h1 h2 h3 h4 h5 h6 => eqFetch_any nm now full wd room a b c d e f its ts ps W h1 h2 h3 h4 h5 h6 hli hlp hlq HFM.out
  have HES := hid fun a b W h1 h2 => eqStoreS_any a b ss W h1 h2 hls HFS.out
  have X2 := HX1.out.below hb2
  have HX2 := hid X2
  have HB2 := hid B2
  obtain ⟨x0, x1, x2, x3, x4, x5, x6, x7⟩ : w2.cell? ⟨w.heap.size, 0, none⟩ = some (.string nm) ∧ w2.cell? ⟨w.heap.size, 1, none⟩ = some (.int .i64 now) ∧ w2.cell? ⟨w.heap.size, 2, none⟩ = some (.bool full) ∧ w2.cell? ⟨w.heap.size, 3, none⟩ = some (.int .i64 wd) ∧ w2.cell? ⟨w.heap.size, 4, none⟩ = some (.int .i64 room) ∧ w2.cell? ⟨w.heap.size, 5, none⟩ = some (.slice ai its.length ci) ∧ w2.cell? ⟨w.heap.size, 6, none⟩ = some (.slice ap ts.length cp) ∧ w2.cell? ⟨w.heap.size, 7, none⟩ = some (.slice aq ps.length cq) := ⟨X2.cell 0, X2.cell 1, X2.cell 2, X2.cell 3, X2.cell 4, X2.cell 5, X2.cell 6, X2.cell 7⟩
  have hneg3 : ¬ ((r2 : Int) < 0) := hneg2
  clear hrr hb2 B2 X2 HZ2 HX1 HB1 tot1 tot2 s1 s2 ff sf n1 hneg2
  go_wp2_with fail
  refine (HT.out w2 HB2.out).mono ?_
  rintro e w3 ⟨v3, p3, q3, qs3, rfl, hq3, fo3, _, hb3⟩
  have B3 := HB2.out.trans (hb3.mono HB2.out.size)
  have HX3 := hid (HX2.out.below hb3)
  have HB3 := hid B3
  clear x0 x1 x2 x3 x4 x5 x6 x7 hb3 B3 HX2
  go_wp2_with fail
  refine (HU.out w3 HB3.out).mono ?_
  rintro e w4 ⟨v4, os4, rfl, ho4, so4, hb4⟩
  have HX4 := hid (HX3.out.below hb4)
  have HB4 := hid (HB3.out.trans (hb4.mono HB3.out.size))
  have HC := hid (HSP.out v3 p3 q3 v4 qs3 os4 w4 ((fo3.below hb4).base (Nat.zero_le _)) (so4.base (Nat.zero_le _)) hq3 ho4)
  obtain ⟨i4, j4, rfl⟩ := row_any so4.row
  clear fo3 so4 hq3 ho4 hb4 HX3 HB2 HSP
  go_wp2_with fail
  refine HC.out.mono ?_
  rintro e w5 ⟨y, v6, p6, q6, u6, s6, m6, rfl, hy, hrd, hb5⟩
  have HY := hid hy
  have hrd0 := hrd
  obtain ⟨ri, rp, rq, ru, rs, rm⟩ := hrd0
  obtain ⟨a6, c6, rfl, _⟩ := ri
  obtain ⟨b6, d6, rfl, _⟩ := rp.form
  obtain ⟨e6, f6, rfl, _⟩ := rq
  obtain ⟨g6, h6, rfl, _⟩ := ru
  obtain ⟨i6, j6, rfl, _⟩ := rs
  obtain ⟨k6, l6, rfl, _⟩ := rm
  have hA5 := (Below.refl w5.heap.size w5).alloc (Nat.le_refl _) (.cells #[.string y.nm, .int .i64 y.now, .bool y.full, .int .i64 y.wd, .int .i64 y.room, .slice a6 y.its.length c6, .slice b6 y.ts.length d6, .slice e6 y.ps.length f6, .slice g6 y.bs.length h6, .slice i6 y.ss.length j6, .slice k6 y.ms.length l6, .int .i64 y.wst] 42)
  have HBA := hid ((HB4.out.trans (hb5.mono HB4.out.size)).trans (hA5.mono (by have := HB4.out.size; have := hb5.size; omega)))
  have XA := (HX4.out.below hb5).below hA5
  have HXA := hid XA
  have HZA := hid (Blk.new w5 42 #[.string y.nm, .int .i64 y.now, .bool y.full, .int .i64 y.wd, .int .i64 y.room, .slice a6 y.its.length c6, .slice b6 y.ts.length d6, .slice e6 y.ps.length f6, .slice g6 y.bs.length h6, .slice i6 y.ss.length j6, .slice k6 y.ms.length l6, .int .i64 y.wst])
  have HRA := hid (hrd.below hA5)
  obtain ⟨x0, x1, x2, x3, x4, x5, x6, x7⟩ : (w5.alloc (.cells #[.string y.nm, .int .i64 y.now, .bool y.full, .int .i64 y.wd, .int .i64 y.room, .slice a6 y.its.length c6, .slice b6 y.ts.length d6, .slice e6 y.ps.length f6, .slice g6 y.bs.length h6, .slice i6 y.ss.length j6, .slice k6 y.ms.length l6, .int .i64 y.wst] 42)).cell? ⟨w.heap.size, 0, none⟩ = some (.string nm) ∧ (w5.alloc (.cells #[.string y.nm, .int .i64 y.now, .bool y.full, .int .i64 y.wd, .int .i64 y.room, .slice a6 y.its.length c6, .slice b6 y.ts.length d6, .slice e6 y.ps.length f6, .slice g6 y.bs.length h6, .slice i6 y.ss.length j6, .slice k6 y.ms.length l6, .int .i64 y.wst] 42)).cell? ⟨w.heap.size, 1, none⟩ = some (.int .i64 now) ∧ (w5.alloc (.cells #[.string y.nm, .int .i64 y.now, .bool y.full, .int .i64 y.wd, .int .i64 y.room, .slice a6 y.its.length c6, .slice b6 y.ts.length d6, .slice e6 y.ps.length f6, .slice g6 y.bs.length h6, .slice i6 y.ss.length j6, .slice k6 y.ms.length l6, .int .i64 y.wst] 42)).cell? ⟨w.heap.size, 2, none⟩ = some (.bool full) ∧ (w5.alloc (.cells #[.string y.nm, .int .i64 y.now, .bool y.full, .int .i64 y.wd, .int .i64 y.room, .slice a6 y.its.length c6, .slice b6 y.ts.length d6, .slice e6 y.ps.length f6, .slice g6 y.bs.length h6, .slice i6 y.ss.length j6, .slice k6 y.ms.length l6, .int .i64 y.wst] 42)).cell? ⟨w.heap.size, 3, none⟩ = some (.int .i64 wd) ∧ (w5.alloc (.cells #[.string y.nm, .int .i64 y.now, .bool y.full, .int .i64 y.wd, .int .i64 y.room, .slice a6 y.its.length c6, .slice b6 y.ts.length d6, .slice e6 y.ps.length f6, .slice g6 y.bs.length h6, .slice i6 y.ss.length j6, .slice k6 y.ms.length l6, .int .i64 y.wst] 42)).cell? ⟨w.heap.size, 4, none⟩ = some (.int .i64 room) ∧ (w5.alloc (.cells #[.string y.nm, .int .i64 y.now, .bool y.full, .int .i64 y.wd, .int .i64 y.room, .slice a6 y.its.length c6, .slice b6 y.ts.length d6, .slice e6 y.ps.length f6, .slice g6 y.bs.length h6, .slice i6 y.ss.length j6, .slice k6 y.ms.length l6, .int .i64 y.wst] 42)).cell? ⟨w.heap.size, 5, none⟩ = some (.slice ai its.length ci) ∧ (w5.alloc (.cells #[.string y.nm, .int .i64 y.now, .bool y.full, .int .i64 y.wd, .int .i64 y.room, .slice a6 y.its.length c6, .slice b6 y.ts.length d6, .slice e6 y.ps.length f6, .slice g6 y.bs.length h6, .slice i6 y.ss.length j6, .slice k6 y.ms.length l6, .int .i64 y.wst] 42)).cell? ⟨w.heap.size, 6, none⟩ = some (.slice ap ts.length cp) ∧ (w5.alloc (.cells #[.string y.nm, .int .i64 y.now, .bool y.full, .int .i64 y.wd, .int .i64 y.room, .slice a6 y.its.length c6, .slice b6 y.ts.length d6, .slice e6 y.ps.length f6, .slice g6 y.bs.length h6, .slice i6 y.ss.length j6, .slice k6 y.ms.length l6, .int .i64 y.wst] 42)).cell? ⟨w.heap.size, 7, none⟩ = some (.slice aq ps.length cq) := ⟨XA.cell 0, XA.cell 1, XA.cell 2, XA.cell 3, XA.cell 4, XA.cell 5, XA.cell 6, XA.cell 7⟩
  clear hrd hb5 hA5 XA HX4 HB3 HB4 HC rp hy
  go_wp2_with fail
  obtain ⟨A, hAe⟩ : ∃ x, x = w5.alloc (.cells #[.string y.nm, .int .i64 y.now, .bool y.full, .int .i64 y.wd, .int .i64 y.room, .slice a6 y.its.length c6, .slice b6 y.ts.length d6, .slice e6 y.ps.length f6, .slice g6 y.bs.length h6, .slice i6 y.ss.length j6, .slice k6 y.ms.length l6, .int .i64 y.wst] 42) := ⟨_, rfl⟩
  rw [← hAe] at HBA HXA HZA HRA ⊢
  rw [← hAe] at x0 x1 x2 x3 x4 x5 x6 x7
  clear hAe x0 x1 x2 x3 x4 x5 x6 x7
  generalize w5.heap.size = n6 at *
  refine (HT.out A HBA.out).mono ?_
  rintro e A1 ⟨v7, p7, vq7, q7, rfl, hq7, fo7, _, hb7⟩
  obtain ⟨a7, c7, rfl⟩ := row_any fo7.store.items
  obtain ⟨b7, d7, rfl⟩ := row_any fo7.store.pins
  obtain ⟨e7, f7, rfl⟩ := row_any fo7.peers.row
  have hA1 := (Below.refl A1.heap.size A1).alloc (Nat.le_refl _) (.cells #[.string nm, .int .i64 now, .bool full, .int .i64 wd, .int .i64 room, .slice a7 its.length c7, .slice b7 ts.length d7, .slice e7 q7.length f7] 37)
  have HAA2 := hid (hb7.trans (hA1.mono hb7.size))
  have HF2 := hid ((fo7.base (by omega : A.heap.size ≤ _)).below hA1)
  have HX72 := hid (Blk.new A1 37 #[.string nm, .int .i64 now, .bool full, .int .i64 wd, .int .i64 room, .slice a7 its.length c7, .slice b7 ts.length d7, .slice e7 q7.length f7])
  have HQ7 := hid hq7
  clear fo7 hb7 hA1 hq7
  go_wp2_with fail
  obtain ⟨A2, hA2e⟩ : ∃ x, x = A1.alloc (.cells #[.string nm, .int .i64 now, .bool full, .int .i64 wd, .int .i64 room, .slice a7 its.length c7, .slice b7 ts.length d7, .slice e7 q7.length f7] 37) := ⟨_, rfl⟩
  rw [← hA2e] at HAA2 HF2 HX72 ⊢
  clear hA2e
  generalize A1.heap.size = n7 at *
  have HBA2 := hid (HBA.out.trans (HAA2.out.mono HBA.out.size))
  refine (HU.out A2 HBA2.out).mono ?_
  rintro e A3 ⟨vx8, o8, rfl, ho8, so8, hb8⟩
  obtain ⟨a8, c8, rfl⟩ := row_any so8.row
  have F3 := HF2.out.below hb8
  have X73 := HX72.out.below hb8
  have HAA3 := hid (HAA2.out.trans (hb8.mono HAA2.out.size))
  have HBA3 := hid (HBA.out.trans (HAA3.out.mono HBA.out.size))
  have R3 := F3.peers.rdp
  rw [HQ7.out] at R3
  have S3 := so8.rds
  rw [ho8] at S3
  have HC := hid (HM.out _ _ _ _ A3 F3.store.rdi (Reads.of_row F3.store.pins) R3 S3)
  have HS3 := hid so8
  have HO8 := hid ho8
  have HF3 := hid F3
  have HX73 := hid X73
  have hz23 := hb8.size
  obtain ⟨x0, x1, x2, x3, x4, x5, x6, x7⟩ : A3.cell? ⟨n7, 0, none⟩ = some (.string nm) ∧ A3.cell? ⟨n7, 1, none⟩ = some (.int .i64 now) ∧ A3.cell? ⟨n7, 2, none⟩ = some (.bool full) ∧ A3.cell? ⟨n7, 3, none⟩ = some (.int .i64 wd) ∧ A3.cell? ⟨n7, 4, none⟩ = some (.int .i64 room) ∧ A3.cell? ⟨n7, 5, none⟩ = some (.slice a7 its.length c7) ∧ A3.cell? ⟨n7, 6, none⟩ = some (.slice b7 ts.length d7) ∧ A3.cell? ⟨n7, 7, none⟩ = some (.slice e7 q7.length f7) := ⟨X73.cell 0, X73.cell 1, X73.cell 2, X73.cell 3, X73.cell 4, X73.cell 5, X73.cell 6, X73.cell 7⟩
  have HLT := hid fun b hb => (HF2.out.lt b hb).2
  clear F3 X73 R3 S3 so8 ho8 hb8 HBA2 HF2 HX72
  go_wp2_with fail
  refine HC.out.mono ?_
  rintro e A4 ⟨y', v9, p9, vq9, u9, s9, q9, o9, rfl, hy', hq9, ho9, wo9, hb9⟩
  obtain rfl := (new_y HY.out hy').symm
  obtain ⟨a9, c9, rfl⟩ := row_any wo9.fetch.store.items
  obtain ⟨b9, d9, rfl⟩ := row_any wo9.fetch.store.pins
  obtain ⟨e9, f9, rfl⟩ := row_any wo9.fetch.peers.row
  obtain ⟨g9, h9, rfl⟩ := row_any wo9.bools
  obtain ⟨i9, j9, rfl⟩ := row_any wo9.stores.row
  have hA4 := (Below.refl A4.heap.size A4).alloc (Nat.le_refl _) (.cells #[.string y.nm, .int .i64 y.now, .bool y.full, .int .i64 y.wd, .int .i64 y.room, .slice a9 y.its.length c9, .slice b9 y.ts.length d9, .slice e9 q9.length f9, .slice g9 y.bs.length h9, .slice i9 o9.length j9, .slice none 0 0, .int .i64 y.wst] 42)
  have HG5 := hid (Blk.new A4 42 #[.string y.nm, .int .i64 y.now, .bool y.full, .int .i64 y.wd, .int .i64 y.room, .slice a9 y.its.length c9, .slice b9 y.ts.length d9, .slice e9 q9.length f9, .slice g9 y.bs.length h9, .slice i9 o9.length j9, .slice none 0 0, .int .i64 y.wst])
  have HQ9 := hid hq9
  have HO9 := hid ho9
  have HW5 := hid (wo9.below hA4)
  have HWL := hid (fun b hb => wo9.lt b hb)
  have h35 := (hb9.trans (hA4.mono hb9.size))
  have HA5 := hid (HAA3.out.trans (h35.mono HAA3.out.size))
  have HF5 := hid (HF3.out.below h35)
  have HX75 := hid (HX73.out.below h35)
  have HS5 := hid (HS3.out.below h35)
  have hz34 := hb9.size
  clear wo9 hb9 h35 hq9 ho9 hy' x0 x1 x2 x3 x4 x5 x6 x7 HC
  go_upto_region 12 with fail
  obtain ⟨A5, hA5e⟩ : ∃ x, x = A4.alloc (.cells #[.string y.nm, .int .i64 y.now, .bool y.full, .int .i64 y.wd, .int .i64 y.room, .slice a9 y.its.length c9, .slice b9 y.ts.length d9, .slice e9 q9.length f9, .slice g9 y.bs.length h9, .slice i9 o9.length j9, .slice none 0 0, .int .i64 y.wst] 42) := ⟨_, rfl⟩
  rw [← hA5e] at HG5 HW5 HA5 HF5 HX75 HS5 ⊢
  clear hA5e hA4
  have hn9 : A4.heap.size ≤ A4.heap.size := Nat.le_refl _
  generalize hn9e : A4.heap.size = n9 at HG5 HWL hn9 hz34 ⊢
  clear hn9 hn9e
  have G5 := HG5.out
  have Z5 := HZA.out.below HA5.out
  obtain ⟨x0, x1, x2, x3, x4, x5, x6, x7, x8, x9, x10, x11⟩ : A5.cell? ⟨n9, 0, none⟩ = some (.string y.nm) ∧ A5.cell? ⟨n9, 1, none⟩ = some (.int .i64 y.now) ∧ A5.cell? ⟨n9, 2, none⟩ = some (.bool y.full) ∧ A5.cell? ⟨n9, 3, none⟩ = some (.int .i64 y.wd) ∧ A5.cell? ⟨n9, 4, none⟩ = some (.int .i64 y.room) ∧ A5.cell? ⟨n9, 5, none⟩ = some (.slice a9 y.its.length c9) ∧ A5.cell? ⟨n9, 6, none⟩ = some (.slice b9 y.ts.length d9) ∧ A5.cell? ⟨n9, 7, none⟩ = some (.slice e9 q9.length f9) ∧ A5.cell? ⟨n9, 8, none⟩ = some (.slice g9 y.bs.length h9) ∧ A5.cell? ⟨n9, 9, none⟩ = some (.slice i9 o9.length j9) ∧ A5.cell? ⟨n9, 10, none⟩ = some (.slice none 0 0) ∧ A5.cell? ⟨n9, 11, none⟩ = some (.int .i64 y.wst) := ⟨G5.cell 0, G5.cell 1, G5.cell 2, G5.cell 3, G5.cell 4, G5.cell 5, G5.cell 6, G5.cell 7, G5.cell 8, G5.cell 9, G5.cell 10, G5.cell 11⟩
  obtain ⟨z0, z1, z2, z3, z4, z5, z6, z7, z8, z9, z10, z11⟩ : A5.cell? ⟨n6, 0, none⟩ = some (.string y.nm) ∧ A5.cell? ⟨n6, 1, none⟩ = some (.int .i64 y.now) ∧ A5.cell? ⟨n6, 2, none⟩ = some (.bool y.full) ∧ A5.cell? ⟨n6, 3, none⟩ = some (.int .i64 y.wd) ∧ A5.cell? ⟨n6, 4, none⟩ = some (.int .i64 y.room) ∧ A5.cell? ⟨n6, 5, none⟩ = some (.slice a6 y.its.length c6) ∧ A5.cell? ⟨n6, 6, none⟩ = some (.slice b6 y.ts.length d6) ∧ A5.cell? ⟨n6, 7, none⟩ = some (.slice e6 y.ps.length f6) ∧ A5.cell? ⟨n6, 8, none⟩ = some (.slice g6 y.bs.length h6) ∧ A5.cell? ⟨n6, 9, none⟩ = some (.slice i6 y.ss.length j6) ∧ A5.cell? ⟨n6, 10, none⟩ = some (.slice k6 y.ms.length l6) ∧ A5.cell? ⟨n6, 11, none⟩ = some (.int .i64 y.wst) := ⟨Z5.cell 0, Z5.cell 1, Z5.cell 2, Z5.cell 3, Z5.cell 4, Z5.cell 5, Z5.cell 6, Z5.cell 7, Z5.cell 8, Z5.cell 9, Z5.cell 10, Z5.cell 11⟩
  have HC := hid (eqWorld_any y _ _ _ _ _ _ _ _ _ _ _ _ A5 (HW5.out.rdw HQ9.out HO9.out (y_ms HY.out)) (HRA.out.below HA5.out) (y_fits HY.out HWF.out))
  clear G5 Z5
  go_wp2_with fail
  refine HC.out.mono ?_
  rintro e A6 ⟨rfl, hb6⟩
  have HA6 := hid (HA5.out.trans (hb6.mono HA5.out.size))
  have HG6 := hid (HG5.out.below hb6)
  have HW6 := hid (HW5.out.below hb6)
  have HF6 := hid (HF5.out.below hb6)
  have HX76 := hid (HX75.out.below hb6)
  have HS6 := hid (HS5.out.below hb6)
  clear hb6 x0 x1 x2 x3 x4 x5 x6 x7 x8 x9 x10 x11 z0 z1 z2 z3 z4 z5 z6 z7 z8 z9 z10 z11 HC HG5 HW5 HF5 HX75 HS5 HA5
  have hec := enters_of Tryz.func7 (by kernel_rfl) rfl
  have hec2 := enters_of Tryz.func11 (by kernel_rfl) rfl
  have X6 := HX76.out
  have Y6 := HXA.out.below HA6.out
  have hS0 : A6.drew.cell? ⟨n7, 0, none⟩ = some (.string nm) ∧ A6.drew.cell? ⟨n7, 1, none⟩ = some (.int .i64 now) ∧ A6.drew.cell? ⟨n7, 2, none⟩ = some (.bool full) ∧ A6.drew.cell? ⟨n7, 3, none⟩ = some (.int .i64 wd) ∧ A6.drew.cell? ⟨n7, 4, none⟩ = some (.int .i64 room) ∧ A6.drew.cell? ⟨n7, 5, none⟩ = some (.slice a7 its.length c7) ∧ A6.drew.cell? ⟨n7, 6, none⟩ = some (.slice b7 ts.length d7) ∧ A6.drew.cell? ⟨n7, 7, none⟩ = some (.slice e7 q7.length f7) ∧ A6.drew.cell? ⟨w.heap.size, 0, none⟩ = some (.string nm) ∧ A6.drew.cell? ⟨w.heap.size, 1, none⟩ = some (.int .i64 now) ∧ A6.drew.cell? ⟨w.heap.size, 2, none⟩ = some (.bool full) ∧ A6.drew.cell? ⟨w.heap.size, 3, none⟩ = some (.int .i64 wd) ∧ A6.drew.cell? ⟨w.heap.size, 4, none⟩ = some (.int .i64 room) ∧ A6.drew.cell? ⟨w.heap.size, 5, none⟩ = some (.slice ai its.length ci) ∧ A6.drew.cell? ⟨w.heap.size, 6, none⟩ = some (.slice ap ts.length cp) ∧ A6.drew.cell? ⟨w.heap.size, 7, none⟩ = some (.slice aq ps.length cq) := ⟨X6.cell 0, X6.cell 1, X6.cell 2, X6.cell 3, X6.cell 4, X6.cell 5, X6.cell 6, X6.cell 7, Y6.cell 0, Y6.cell 1, Y6.cell 2, Y6.cell 3, Y6.cell 4, Y6.cell 5, Y6.cell 6, Y6.cell 7⟩
  have hbd : Below A6.heap.size A6 A6.drew := below_drewN (Below.refl _ _) 1
  have HB6 := hid (HBA.out.trans (HA6.out.mono HBA.out.size))
  have HB6d := hid (HB6.out.trans (hbd.mono HB6.out.size))
  clear hbd X6 Y6
  go_wp2_with fail
  refine wp_region_held (S := fun w' => w'.cell? ⟨n7, 0, none⟩ = some (.string nm) ∧ w'.cell? ⟨n7, 1, none⟩ = some (.int .i64 now) ∧ w'.cell? ⟨n7, 2, none⟩ = some (.bool full) ∧ w'.cell? ⟨n7, 3, none⟩ = some (.int .i64 wd) ∧ w'.cell? ⟨n7, 4, none⟩ = some (.int .i64 room) ∧ w'.cell? ⟨n7, 5, none⟩ = some (.slice a7 its.length c7) ∧ w'.cell? ⟨n7, 6, none⟩ = some (.slice b7 ts.length d7) ∧ w'.cell? ⟨n7, 7, none⟩ = some (.slice e7 q7.length f7) ∧ w'.cell? ⟨w.heap.size, 0, none⟩ = some (.string nm) ∧ w'.cell? ⟨w.heap.size, 1, none⟩ = some (.int .i64 now) ∧ w'.cell? ⟨w.heap.size, 2, none⟩ = some (.bool full) ∧ w'.cell? ⟨w.heap.size, 3, none⟩ = some (.int .i64 wd) ∧ w'.cell? ⟨w.heap.size, 4, none⟩ = some (.int .i64 room) ∧ w'.cell? ⟨w.heap.size, 5, none⟩ = some (.slice ai its.length ci) ∧ w'.cell? ⟨w.heap.size, 6, none⟩ = some (.slice ap ts.length cp) ∧ w'.cell? ⟨w.heap.size, 7, none⟩ = some (.slice aq ps.length cq)) (by kernel_rfl) ?_
  change wpAnyH _ _ _ _ _ _ _ _ (World.drew _)
  refine wpAnyH_take (i := 0) (v := .agg #[.string nm, .int .i64 now, .bool full, .int .i64 wd, .int .i64 room, .slice a7 its.length c7, .slice b7 ts.length d7, .slice e7 q7.length f7]) rfl (by kernel_rfl) (by kernel_rfl) (by kernel_rfl) (fun _ _ _ h => h) (.inl ⟨rfl, fun w' hS => by obtain ⟨s0, s1, s2, s3, s4, s5, s6, s7, s8, s9, s10, s11, s12, s13, s14, s15⟩ := hS; go_simp⟩) hS0 ?_
  refine wpAnyH_take (i := 1) (v := .agg #[.string nm, .int .i64 now, .bool full, .int .i64 wd, .int .i64 room, .slice ai its.length ci, .slice ap ts.length cp, .slice aq ps.length cq]) rfl (by kernel_rfl) (by kernel_rfl) (by kernel_rfl) (fun _ _ _ h => h) (.inl ⟨rfl, fun w' hS => by obtain ⟨s0, s1, s2, s3, s4, s5, s6, s7, s8, s9, s10, s11, s12, s13, s14, s15⟩ := hS; go_simp⟩) hS0 ?_
  refine held_one 2 (by kernel_rfl) (op_calls (f := 7) (args := #[.agg #[.string nm, .int .i64 now, .bool full, .int .i64 wd, .int .i64 room, .slice ai its.length ci, .slice ap ts.length cp, .slice aq ps.length cq]]) rfl rfl (by go_simp) (HT.out _ HB6d.out) ?_)
  rintro e A7 ⟨i7, p7, vr7, r7, rfl, hr7, fr7, _, hb7⟩
  have hb7' : Below A6.heap.size A6 A7 := ⟨hb7.os, hb7.tape, hb7.output, hb7.size, hb7.block⟩
  have X7 := HX76.out.below hb7'
  have HA7 := hid (HA6.out.trans (hb7'.mono HA6.out.size))
  have Y7 := HXA.out.below HA7.out
  have hS1 : A7.cell? ⟨n7, 0, none⟩ = some (.string nm) ∧ A7.cell? ⟨n7, 1, none⟩ = some (.int .i64 now) ∧ A7.cell? ⟨n7, 2, none⟩ = some (.bool full) ∧ A7.cell? ⟨n7, 3, none⟩ = some (.int .i64 wd) ∧ A7.cell? ⟨n7, 4, none⟩ = some (.int .i64 room) ∧ A7.cell? ⟨n7, 5, none⟩ = some (.slice a7 its.length c7) ∧ A7.cell? ⟨n7, 6, none⟩ = some (.slice b7 ts.length d7) ∧ A7.cell? ⟨n7, 7, none⟩ = some (.slice e7 q7.length f7) ∧ A7.cell? ⟨w.heap.size, 0, none⟩ = some (.string nm) ∧ A7.cell? ⟨w.heap.size, 1, none⟩ = some (.int .i64 now) ∧ A7.cell? ⟨w.heap.size, 2, none⟩ = some (.bool full) ∧ A7.cell? ⟨w.heap.size, 3, none⟩ = some (.int .i64 wd) ∧ A7.cell? ⟨w.heap.size, 4, none⟩ = some (.int .i64 room) ∧ A7.cell? ⟨w.heap.size, 5, none⟩ = some (.slice ai its.length ci) ∧ A7.cell? ⟨w.heap.size, 6, none⟩ = some (.slice ap ts.length cp) ∧ A7.cell? ⟨w.heap.size, 7, none⟩ = some (.slice aq ps.length cq) := ⟨X7.cell 0, X7.cell 1, X7.cell 2, X7.cell 3, X7.cell 4, X7.cell 5, X7.cell 6, X7.cell 7, Y7.cell 0, Y7.cell 1, Y7.cell 2, Y7.cell 3, Y7.cell 4, Y7.cell 5, Y7.cell 6, Y7.cell 7⟩
  have Q7 := fr7.peers.rdp
  rw [hr7] at Q7
  have P7 := (HF6.out.below hb7').peers.rdp
  rw [HQ7.out] at P7
  have HEQ := hid (HEF.out _ _ _ i7 p7 vr7 A7 (HF6.out.below hb7').store.rdi (Reads.of_row (HF6.out.below hb7').store.pins) P7 fr7.store.rdi (Reads.of_row fr7.store.pins) Q7)
  refine ⟨_, rfl, hS1, ?_⟩
  refine held_one 3 (by kernel_rfl) (op_calls (f := 11) (args := #[.agg #[.string nm, .int .i64 now, .bool full, .int .i64 wd, .int .i64 room, .slice a7 its.length c7, .slice b7 ts.length d7, .slice e7 q7.length f7], fval nm now full wd room i7 p7 vr7]) rfl rfl (by go_simp) HEQ.out ?_)
  rintro e A8 ⟨rfl, hb8⟩
  have h68 := hb7'.trans (hb8.mono hb7'.size)
  have X8 := X7.below hb8
  have Y8 := Y7.below hb8
  have hS2 : A8.cell? ⟨n7, 0, none⟩ = some (.string nm) ∧ A8.cell? ⟨n7, 1, none⟩ = some (.int .i64 now) ∧ A8.cell? ⟨n7, 2, none⟩ = some (.bool full) ∧ A8.cell? ⟨n7, 3, none⟩ = some (.int .i64 wd) ∧ A8.cell? ⟨n7, 4, none⟩ = some (.int .i64 room) ∧ A8.cell? ⟨n7, 5, none⟩ = some (.slice a7 its.length c7) ∧ A8.cell? ⟨n7, 6, none⟩ = some (.slice b7 ts.length d7) ∧ A8.cell? ⟨n7, 7, none⟩ = some (.slice e7 q7.length f7) ∧ A8.cell? ⟨w.heap.size, 0, none⟩ = some (.string nm) ∧ A8.cell? ⟨w.heap.size, 1, none⟩ = some (.int .i64 now) ∧ A8.cell? ⟨w.heap.size, 2, none⟩ = some (.bool full) ∧ A8.cell? ⟨w.heap.size, 3, none⟩ = some (.int .i64 wd) ∧ A8.cell? ⟨w.heap.size, 4, none⟩ = some (.int .i64 room) ∧ A8.cell? ⟨w.heap.size, 5, none⟩ = some (.slice ai its.length ci) ∧ A8.cell? ⟨w.heap.size, 6, none⟩ = some (.slice ap ts.length cp) ∧ A8.cell? ⟨w.heap.size, 7, none⟩ = some (.slice aq ps.length cq) := ⟨X8.cell 0, X8.cell 1, X8.cell 2, X8.cell 3, X8.cell 4, X8.cell 5, X8.cell 6, X8.cell 7, Y8.cell 0, Y8.cell 1, Y8.cell 2, Y8.cell 3, Y8.cell 4, Y8.cell 5, Y8.cell 6, Y8.cell 7⟩
  refine ⟨_, rfl, hS2, ?_⟩
  refine wpAnyH_take (i := 4) (v := .bool false) rfl (by kernel_rfl) (by kernel_rfl) (by kernel_rfl) (fun _ _ _ h => h) (.inl ⟨rfl, fun w' hS => by obtain ⟨s0, s1, s2, s3, s4, s5, s6, s7, s8, s9, s10, s11, s12, s13, s14, s15⟩ := hS; go_simp⟩) hS2 ?_
  refine wpAnyH_done (by kernel_rfl) ?_ _
  have HA8 := hid (HA6.out.trans (h68.mono HA6.out.size))
  have HB8 := hid (HBA.out.trans (HA8.out.mono HBA.out.size))
  have HG8 := hid (HG6.out.below h68)
  have HW8 := hid (HW6.out.below h68)
  have HF8 := hid (HF6.out.below h68)
  have HX8 := hid (HX76.out.below h68)
  have HS8 := hid (HS6.out.below h68)
  clear hS0 hS1 hS2 X7 Y7 X8 Y8 hb7 hb7' hb8 h68 fr7 hr7 P7 Q7 HEQ HG6 HW6 HF6 HX76 HS6 HA6 HA7 HB6 HB6d hec hec2
  go_simp
  go_wp2_with fail
  refine (HU.out A8 HB8.out).mono ?_
  rintro e A9 ⟨vr9, r9, rfl, hr9, sr9, hb9⟩
  have S9 := (HS8.out.below hb9).rds
  rw [HO8.out] at S9
  have T9 := sr9.rds
  rw [hr9] at T9
  have HC := hid (HES.out _ _ A9 S9 T9)
  clear S9 T9 hr9
  obtain ⟨k9, l9, rfl⟩ := row_any sr9.row
  clear sr9
  have h89 := hid hb9
  clear hb9
  go_wp2_with fail
  refine HC.out.mono ?_
  rintro e A10 ⟨rfl, hb10⟩
  have h810 := h89.out.trans (hb10.mono h89.out.size)
  have HA10 := hid (HA8.out.trans (h810.mono HA8.out.size))
  have HG10 := hid (HG8.out.below h810)
  have HW10 := hid (HW8.out.below h810)
  have HS10 := hid (HS8.out.below h810)
  have X10 := HX8.out.below h810
  have HC2 := hid (markFetch_any nm now full wd room _ _ _ _ its ts q7 A10 (HF8.out.below h810) (by have e : totQ q7 = totP ps := congrArg totP HQ7.out; rw [e]; omega))
  obtain ⟨x0, x1, x2, x3, x4, x5, x6, x7⟩ : A10.cell? ⟨n7, 0, none⟩ = some (.string nm) ∧ A10.cell? ⟨n7, 1, none⟩ = some (.int .i64 now) ∧ A10.cell? ⟨n7, 2, none⟩ = some (.bool full) ∧ A10.cell? ⟨n7, 3, none⟩ = some (.int .i64 wd) ∧ A10.cell? ⟨n7, 4, none⟩ = some (.int .i64 room) ∧ A10.cell? ⟨n7, 5, none⟩ = some (.slice a7 its.length c7) ∧ A10.cell? ⟨n7, 6, none⟩ = some (.slice b7 ts.length d7) ∧ A10.cell? ⟨n7, 7, none⟩ = some (.slice e7 q7.length f7) := ⟨X10.cell 0, X10.cell 1, X10.cell 2, X10.cell 3, X10.cell 4, X10.cell 5, X10.cell 6, X10.cell 7⟩
  clear HG8 HW8 HS8 HX8 HF8 h810 h89 hb10 X10 HC HA8 HB8
  go_wp2_with fail
  refine HC2.out.mono ?_
  rintro e A11 ⟨rfl, fm11, kf⟩
  obtain ⟨k1, hk1⟩ : ∃ k, k = 1 + 2 * its.length + ts.length + totQ q7 := ⟨_, rfl⟩
  rw [← hk1]
  have hk2 : 1 ≤ k1 := by omega
  have hk3 : k1 + totT o8 ≤ 4399990 := by
    have e : totQ q7 = totP ps := congrArg totP HQ7.out
    have e2 : totT o8 = totR ss := congrArg totR HO8.out
    rw [hk1, e, e2]; omega
  have HA11 := hid (HA10.out.trans (kf.below (fun g t => (HF3.out.lt g t).1) HA10.out.size))
  have HG11 := hid (kf.blk HG10.out (fun t => by have := HLT.out _ t; omega))
  have HW11 := hid (HW10.out.keep kf (fun b t => by have := HLT.out _ t; omega))
  have HC := hid (markStoreS_any _ k1 _ o8 A11 (HS10.out.same fun b hb => kf.block b (HS10.out.lt b hb).2 (fun t => by have := HLT.out _ t; have := (HS10.out.lt b hb).1; omega)) hk2 hk3)
  clear fm11 kf hk1 x0 x1 x2 x3 x4 x5 x6 x7 HS10 HW10 HG10 HA10 HC2 htot
  go_wp2_with fail
  refine HC.out.mono ?_
  rintro e A12 ⟨rfl, sm12, kt⟩
  obtain ⟨k2, hk4⟩ : ∃ k, k = k1 + totT o8 := ⟨_, rfl⟩
  rw [← hk4]
  have hk5 : ¬ ((k2 : Nat) : Int) < 0 := by omega
  have HA12 := hid (HA11.out.trans (kt.below (fun g t => Nat.le_trans HAA2.out.size (HS3.out.lt g t).1) HA11.out.size))
  have HG12 := hid (kt.blk HG11.out (fun t => by have := (HS3.out.lt _ t).2; omega))
  have HW12 := hid (HW11.out.keep kt (fun b t => (HS3.out.lt _ t).2))
  clear sm12 kt hk2 hk3 hk4 HC HG11 HW11 HA11
  go_upto_region 21 with fail
  have G12 := HG12.out
  have Z12 := HZA.out.below HA12.out
  obtain ⟨x0, x1, x2, x3, x4, x5, x6, x7, x8, x9, x10, x11⟩ : A12.cell? ⟨n9, 0, none⟩ = some (.string y.nm) ∧ A12.cell? ⟨n9, 1, none⟩ = some (.int .i64 y.now) ∧ A12.cell? ⟨n9, 2, none⟩ = some (.bool y.full) ∧ A12.cell? ⟨n9, 3, none⟩ = some (.int .i64 y.wd) ∧ A12.cell? ⟨n9, 4, none⟩ = some (.int .i64 y.room) ∧ A12.cell? ⟨n9, 5, none⟩ = some (.slice a9 y.its.length c9) ∧ A12.cell? ⟨n9, 6, none⟩ = some (.slice b9 y.ts.length d9) ∧ A12.cell? ⟨n9, 7, none⟩ = some (.slice e9 q9.length f9) ∧ A12.cell? ⟨n9, 8, none⟩ = some (.slice g9 y.bs.length h9) ∧ A12.cell? ⟨n9, 9, none⟩ = some (.slice i9 o9.length j9) ∧ A12.cell? ⟨n9, 10, none⟩ = some (.slice none 0 0) ∧ A12.cell? ⟨n9, 11, none⟩ = some (.int .i64 y.wst) := ⟨G12.cell 0, G12.cell 1, G12.cell 2, G12.cell 3, G12.cell 4, G12.cell 5, G12.cell 6, G12.cell 7, G12.cell 8, G12.cell 9, G12.cell 10, G12.cell 11⟩
  obtain ⟨z0, z1, z2, z3, z4, z5, z6, z7, z8, z9, z10, z11⟩ : A12.cell? ⟨n6, 0, none⟩ = some (.string y.nm) ∧ A12.cell? ⟨n6, 1, none⟩ = some (.int .i64 y.now) ∧ A12.cell? ⟨n6, 2, none⟩ = some (.bool y.full) ∧ A12.cell? ⟨n6, 3, none⟩ = some (.int .i64 y.wd) ∧ A12.cell? ⟨n6, 4, none⟩ = some (.int .i64 y.room) ∧ A12.cell? ⟨n6, 5, none⟩ = some (.slice a6 y.its.length c6) ∧ A12.cell? ⟨n6, 6, none⟩ = some (.slice b6 y.ts.length d6) ∧ A12.cell? ⟨n6, 7, none⟩ = some (.slice e6 y.ps.length f6) ∧ A12.cell? ⟨n6, 8, none⟩ = some (.slice g6 y.bs.length h6) ∧ A12.cell? ⟨n6, 9, none⟩ = some (.slice i6 y.ss.length j6) ∧ A12.cell? ⟨n6, 10, none⟩ = some (.slice k6 y.ms.length l6) ∧ A12.cell? ⟨n6, 11, none⟩ = some (.int .i64 y.wst) := ⟨Z12.cell 0, Z12.cell 1, Z12.cell 2, Z12.cell 3, Z12.cell 4, Z12.cell 5, Z12.cell 6, Z12.cell 7, Z12.cell 8, Z12.cell 9, Z12.cell 10, Z12.cell 11⟩
  have HC := hid (eqWorld_any y _ _ _ _ _ _ _ _ _ _ _ _ A12 (HW12.out.rdw HQ9.out HO9.out (y_ms HY.out)) (HRA.out.below HA12.out) (y_fits HY.out HWF.out))
  clear G12 Z12
  go_wp2_with fail
  refine HC.out.mono ?_
  rintro e A13 ⟨rfl, hb13⟩
  have HA13 := hid (HA12.out.trans (hb13.mono HA12.out.size))
  have HG13 := hid (HG12.out.below hb13)
  have HW13 := hid (HW12.out.below hb13)
  clear hb13 x0 x1 x2 x3 x4 x5 x6 x7 x8 x9 x10 x11 z0 z1 z2 z3 z4 z5 z6 z7 z8 z9 z10 z11 HC HG12 HW12 HA12
  have HC := hid (markWorld_any y.nm y.now y.full y.wd y.room y.wst _ _ _ _ _ none 0 _ y.its y.ts q9 y.bs o9 A13 HW13.out (by rw [HQ9.out, HO9.out]; exact y_tot HY.out))
  have G13 := HG13.out
  obtain ⟨x0, x1, x2, x3, x4, x5, x6, x7, x8, x9, x10, x11⟩ : A13.cell? ⟨n9, 0, none⟩ = some (.string y.nm) ∧ A13.cell? ⟨n9, 1, none⟩ = some (.int .i64 y.now) ∧ A13.cell? ⟨n9, 2, none⟩ = some (.bool y.full) ∧ A13.cell? ⟨n9, 3, none⟩ = some (.int .i64 y.wd) ∧ A13.cell? ⟨n9, 4, none⟩ = some (.int .i64 y.room) ∧ A13.cell? ⟨n9, 5, none⟩ = some (.slice a9 y.its.length c9) ∧ A13.cell? ⟨n9, 6, none⟩ = some (.slice b9 y.ts.length d9) ∧ A13.cell? ⟨n9, 7, none⟩ = some (.slice e9 q9.length f9) ∧ A13.cell? ⟨n9, 8, none⟩ = some (.slice g9 y.bs.length h9) ∧ A13.cell? ⟨n9, 9, none⟩ = some (.slice i9 o9.length j9) ∧ A13.cell? ⟨n9, 10, none⟩ = some (.slice none 0 0) ∧ A13.cell? ⟨n9, 11, none⟩ = some (.int .i64 y.wst) := ⟨G13.cell 0, G13.cell 1, G13.cell 2, G13.cell 3, G13.cell 4, G13.cell 5, G13.cell 6, G13.cell 7, G13.cell 8, G13.cell 9, G13.cell 10, G13.cell 11⟩
  clear G13
  go_wp2_with fail
  refine HC.out.mono ?_
  rintro e A14 ⟨rfl, wm, kw⟩
  obtain ⟨K, hK⟩ : ∃ k, k = 1 + totW y.its y.ts y.ps y.bs y.ss := ⟨_, rfl⟩
  have hK0 : ¬ ((K : Nat) : Int) < 0 := by omega
  have hK1 : 1 + totW y.its y.ts (List.map Prod.fst q9) y.bs (List.map Prod.fst o9) = K := by rw [HQ9.out, HO9.out, hK]
  rw [hK1]
  have HA14 := hid (HA13.out.trans (kw.below (fun g t => Nat.le_trans HAA3.out.size (HWL.out g t).1) HA13.out.size))
  have HG14 := hid (kw.blk HG13.out (fun t => by have := (HWL.out _ t).2; omega))
  have HHV : Hid (∀ W : World, Below A14.heap.size A14 W → Calls Tryz.prog 16 #[wval y.nm y.now y.full y.wd y.room (.slice a9 y.its.length c9) (.slice b9 y.ts.length d9) (.slice e9 q9.length f9) (.slice g9 y.bs.length h9) (.slice i9 o9.length j9) (.slice none 0 0) y.wst, .int .i64 1] W fun e w' => e = .returned (.int .i64 (K : Int)) ∧ Below W.heap.size W w') := hid fun W hb => by have h := held_own y _ _ _ _ _ _ q9 o9 W HQ9.out HO9.out (y_tot HY.out) (wm.below hb); rw [← hK] at h; exact h
  have G14 := HG14.out
  clear x0 x1 x2 x3 x4 x5 x6 x7 x8 x9 x10 x11 HC HG13 HW13 HA13 wm kw hK hK1 hk5
  obtain ⟨x0, x1, x2, x3, x4, x5, x6, x7, x8, x9, x10, x11⟩ : A14.cell? ⟨n9, 0, none⟩ = some (.string y.nm) ∧ A14.cell? ⟨n9, 1, none⟩ = some (.int .i64 y.now) ∧ A14.cell? ⟨n9, 2, none⟩ = some (.bool y.full) ∧ A14.cell? ⟨n9, 3, none⟩ = some (.int .i64 y.wd) ∧ A14.cell? ⟨n9, 4, none⟩ = some (.int .i64 y.room) ∧ A14.cell? ⟨n9, 5, none⟩ = some (.slice a9 y.its.length c9) ∧ A14.cell? ⟨n9, 6, none⟩ = some (.slice b9 y.ts.length d9) ∧ A14.cell? ⟨n9, 7, none⟩ = some (.slice e9 q9.length f9) ∧ A14.cell? ⟨n9, 8, none⟩ = some (.slice g9 y.bs.length h9) ∧ A14.cell? ⟨n9, 9, none⟩ = some (.slice i9 o9.length j9) ∧ A14.cell? ⟨n9, 10, none⟩ = some (.slice none 0 0) ∧ A14.cell? ⟨n9, 11, none⟩ = some (.int .i64 y.wst) := ⟨G14.cell 0, G14.cell 1, G14.cell 2, G14.cell 3, G14.cell 4, G14.cell 5, G14.cell 6, G14.cell 7, G14.cell 8, G14.cell 9, G14.cell 10, G14.cell 11⟩
  clear G14
  go_wp2_with fail
  refine (HHV.out A14 (Below.refl _ _)).mono ?_
  rintro e A15 ⟨rfl, hb15⟩
  have HB15 := hid hb15
  have HA15 := hid (HA14.out.trans (hb15.mono HA14.out.size))
  have Y15 := HXA.out.below HA15.out
  have HW15 := hid (HBA.out.trans (HA15.out.mono HBA.out.size))
  clear x0 x1 x2 x3 x4 x5 x6 x7 x8 x9 x10 x11 hb15 HA14
  obtain ⟨x0, x1, x2, x3, x4, x5, x6, x7⟩ : A15.cell? ⟨w.heap.size, 0, none⟩ = some (.string nm) ∧ A15.cell? ⟨w.heap.size, 1, none⟩ = some (.int .i64 now) ∧ A15.cell? ⟨w.heap.size, 2, none⟩ = some (.bool full) ∧ A15.cell? ⟨w.heap.size, 3, none⟩ = some (.int .i64 wd) ∧ A15.cell? ⟨w.heap.size, 4, none⟩ = some (.int .i64 room) ∧ A15.cell? ⟨w.heap.size, 5, none⟩ = some (.slice ai its.length ci) ∧ A15.cell? ⟨w.heap.size, 6, none⟩ = some (.slice ap ts.length cp) ∧ A15.cell? ⟨w.heap.size, 7, none⟩ = some (.slice aq ps.length cq) := ⟨Y15.cell 0, Y15.cell 1, Y15.cell 2, Y15.cell 3, Y15.cell 4, Y15.cell 5, Y15.cell 6, Y15.cell 7⟩
  clear Y15
  go_wp2_with fail
  refine (HT.out A15 HW15.out).mono ?_
  rintro e A16 ⟨v16, p16, vq16, q16, rfl, hq16, fo16, _, hb16⟩
  have HB16 := hid (HW15.out.trans (hb16.mono HW15.out.size))
  have HF16 := hid fo16
  have HQ16 := hid hq16
  have H16 := hid hb16
  clear x0 x1 x2 x3 x4 x5 x6 x7 fo16 hq16 hb16
  go_wp2_with fail
  refine (HU.out A16 HB16.out).mono ?_
  rintro e A17 ⟨vx17, o17, rfl, ho17, so17, hb17⟩
  have F17 := HF16.out.below hb17
  have Q17 := F17.peers.rdp
  rw [HQ16.out] at Q17
  have S17 := so17.rds
  rw [ho17] at S17
  have HC := hid (HM.out _ _ _ _ A17 F17.store.rdi (Reads.of_row F17.store.pins) Q17 S17)
  have H17 := hid (H16.out.trans (hb17.mono H16.out.size))
  obtain ⟨a17, c17, rfl⟩ := row_any so17.row
  clear F17 Q17 S17 ho17 so17 hb17 H16 HF16 HB16
  go_wp2_with fail
  refine HC.out.mono ?_
  rintro e A18 ⟨y', v5, p5, vq5, u5, s5, q5, o5, rfl, hy', hq5, ho5, wo5, hb18⟩
  obtain rfl := (new_y HY.out hy').symm
  obtain ⟨a5, c5, rfl⟩ := row_any wo5.fetch.store.items
  obtain ⟨b5, d5, rfl⟩ := row_any wo5.fetch.store.pins
  obtain ⟨e5, f5, rfl⟩ := row_any wo5.fetch.peers.row
  obtain ⟨g5, h5, rfl⟩ := row_any wo5.bools
  obtain ⟨i5, j5, rfl⟩ := row_any wo5.stores.row
  have hA18 := (Below.refl A18.heap.size A18).alloc (Nat.le_refl _) (.cells #[.string y.nm, .int .i64 y.now, .bool y.full, .int .i64 y.wd, .int .i64 y.room, .slice a5 y.its.length c5, .slice b5 y.ts.length d5, .slice e5 q5.length f5, .slice g5 y.bs.length h5, .slice i5 o5.length j5, .slice none 0 0, .int .i64 y.wst] 42)
  have HH19 := hid (Blk.new A18 42 #[.string y.nm, .int .i64 y.now, .bool y.full, .int .i64 y.wd, .int .i64 y.room, .slice a5 y.its.length c5, .slice b5 y.ts.length d5, .slice e5 q5.length f5, .slice g5 y.bs.length h5, .slice i5 o5.length j5, .slice none 0 0, .int .i64 y.wst])
  have HV19 := hid ((wo5.below hA18).rdw hq5 ho5 (y_ms HY.out))
  have H19 := hid (H17.out.trans ((hb18.trans (hA18.mono hb18.size)).mono H17.out.size))
  clear wo5 hb18 hq5 ho5 hy' HC H17
  go_upto_region 32 with fail
  obtain ⟨A19, hA19e⟩ : ∃ x, x = A18.alloc (.cells #[.string y.nm, .int .i64 y.now, .bool y.full, .int .i64 y.wd, .int .i64 y.room, .slice a5 y.its.length c5, .slice b5 y.ts.length d5, .slice e5 q5.length f5, .slice g5 y.bs.length h5, .slice i5 o5.length j5, .slice none 0 0, .int .i64 y.wst] 42) := ⟨_, rfl⟩
  rw [← hA19e] at HH19 HV19 H19 ⊢
  clear hA19e hA18
  generalize A18.heap.size = n5 at HH19 ⊢
  have HA19 := hid (HA15.out.trans (H19.out.mono HA15.out.size))
  have G19 := HH19.out
  have Z19 := HZA.out.below HA19.out
  obtain ⟨x0, x1, x2, x3, x4, x5, x6, x7, x8, x9, x10, x11⟩ : A19.cell? ⟨n5, 0, none⟩ = some (.string y.nm) ∧ A19.cell? ⟨n5, 1, none⟩ = some (.int .i64 y.now) ∧ A19.cell? ⟨n5, 2, none⟩ = some (.bool y.full) ∧ A19.cell? ⟨n5, 3, none⟩ = some (.int .i64 y.wd) ∧ A19.cell? ⟨n5, 4, none⟩ = some (.int .i64 y.room) ∧ A19.cell? ⟨n5, 5, none⟩ = some (.slice a5 y.its.length c5) ∧ A19.cell? ⟨n5, 6, none⟩ = some (.slice b5 y.ts.length d5) ∧ A19.cell? ⟨n5, 7, none⟩ = some (.slice e5 q5.length f5) ∧ A19.cell? ⟨n5, 8, none⟩ = some (.slice g5 y.bs.length h5) ∧ A19.cell? ⟨n5, 9, none⟩ = some (.slice i5 o5.length j5) ∧ A19.cell? ⟨n5, 10, none⟩ = some (.slice none 0 0) ∧ A19.cell? ⟨n5, 11, none⟩ = some (.int .i64 y.wst) := ⟨G19.cell 0, G19.cell 1, G19.cell 2, G19.cell 3, G19.cell 4, G19.cell 5, G19.cell 6, G19.cell 7, G19.cell 8, G19.cell 9, G19.cell 10, G19.cell 11⟩
  obtain ⟨z0, z1, z2, z3, z4, z5, z6, z7, z8, z9, z10, z11⟩ : A19.cell? ⟨n6, 0, none⟩ = some (.string y.nm) ∧ A19.cell? ⟨n6, 1, none⟩ = some (.int .i64 y.now) ∧ A19.cell? ⟨n6, 2, none⟩ = some (.bool y.full) ∧ A19.cell? ⟨n6, 3, none⟩ = some (.int .i64 y.wd) ∧ A19.cell? ⟨n6, 4, none⟩ = some (.int .i64 y.room) ∧ A19.cell? ⟨n6, 5, none⟩ = some (.slice a6 y.its.length c6) ∧ A19.cell? ⟨n6, 6, none⟩ = some (.slice b6 y.ts.length d6) ∧ A19.cell? ⟨n6, 7, none⟩ = some (.slice e6 y.ps.length f6) ∧ A19.cell? ⟨n6, 8, none⟩ = some (.slice g6 y.bs.length h6) ∧ A19.cell? ⟨n6, 9, none⟩ = some (.slice i6 y.ss.length j6) ∧ A19.cell? ⟨n6, 10, none⟩ = some (.slice k6 y.ms.length l6) ∧ A19.cell? ⟨n6, 11, none⟩ = some (.int .i64 y.wst) := ⟨Z19.cell 0, Z19.cell 1, Z19.cell 2, Z19.cell 3, Z19.cell 4, Z19.cell 5, Z19.cell 6, Z19.cell 7, Z19.cell 8, Z19.cell 9, Z19.cell 10, Z19.cell 11⟩
  have HC := hid (eqWorld_any y _ _ _ _ _ _ _ _ _ _ _ _ A19 HV19.out (HRA.out.below HA19.out) (y_fits HY.out HWF.out))
  clear G19 Z19
  go_wp2_with fail
  refine HC.out.mono ?_
  rintro e A20 ⟨rfl, hb20⟩
  have H20 := hid (H19.out.trans (hb20.mono H19.out.size))
  have H1420 := hid (HB15.out.trans (H20.out.mono HB15.out.size))
  have G20 := HG14.out.below H1420.out
  clear x0 x1 x2 x3 x4 x5 x6 x7 x8 x9 x10 x11 z0 z1 z2 z3 z4 z5 z6 z7 z8 z9 z10 z11 HC hb20 HH19 HV19
  obtain ⟨x0, x1, x2, x3, x4, x5, x6, x7, x8, x9, x10, x11⟩ : A20.cell? ⟨n9, 0, none⟩ = some (.string y.nm) ∧ A20.cell? ⟨n9, 1, none⟩ = some (.int .i64 y.now) ∧ A20.cell? ⟨n9, 2, none⟩ = some (.bool y.full) ∧ A20.cell? ⟨n9, 3, none⟩ = some (.int .i64 y.wd) ∧ A20.cell? ⟨n9, 4, none⟩ = some (.int .i64 y.room) ∧ A20.cell? ⟨n9, 5, none⟩ = some (.slice a9 y.its.length c9) ∧ A20.cell? ⟨n9, 6, none⟩ = some (.slice b9 y.ts.length d9) ∧ A20.cell? ⟨n9, 7, none⟩ = some (.slice e9 q9.length f9) ∧ A20.cell? ⟨n9, 8, none⟩ = some (.slice g9 y.bs.length h9) ∧ A20.cell? ⟨n9, 9, none⟩ = some (.slice i9 o9.length j9) ∧ A20.cell? ⟨n9, 10, none⟩ = some (.slice none 0 0) ∧ A20.cell? ⟨n9, 11, none⟩ = some (.int .i64 y.wst) := ⟨G20.cell 0, G20.cell 1, G20.cell 2, G20.cell 3, G20.cell 4, G20.cell 5, G20.cell 6, G20.cell 7, G20.cell 8, G20.cell 9, G20.cell 10, G20.cell 11⟩
  clear G20
  go_wp2_with fail
  refine (HHV.out A20 H1420.out).mono ?_
  rintro e A21 ⟨rfl, hb21⟩
  have HB21 := hid (HW15.out.trans ((H20.out.trans (hb21.mono H20.out.size)).mono HW15.out.size))
  clear x0 x1 x2 x3 x4 x5 x6 x7 x8 x9 x10 x11 hb21
  go_wp2
  go_ret
  exact ⟨by simp, HB21.out⟩
end Go.Proofs.YtlnkhbnbcmllaaaGreat
