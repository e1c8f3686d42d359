/- spec.NewWorld. -/
import Derived.Test.YtlnkhbnbcmllaaaGreatStoresGrow
import Derived.Test.YtlnkhbnbcmllaaaGreatWorldTo2
import Derived.Test.YtlnkhbnbcmllaaaGreatWorldSpec
import Derived.Test.YtlnkhbnbcmllaaaGreatCopySpec
namespace Go.Proofs.YtlnkhbnbcmllaaaGreat
open Go.RowKit
/-- The world of nothing. -/
def wd0 : Wd := ⟨⟨#[]⟩, 0, false, 0, 0, [], [], [], [], [], [], 0⟩
/-- A new world. -/
abbrev newW (nm : ByteArray) (now : Int) (full : Bool) (wd room : Int) (its : Itms) (ts : List ByteArray) (ps : Prs) (ss : Srs) : Wd := ⟨nm, now, full, wd, room, its, ts, ps, List.replicate ps.length true, ss, [], 0⟩
theorem newW_valid {nm : ByteArray} {now : Int} {full : Bool} {wd room : Int} {its : Itms} {ts : List ByteArray} {ps : Prs} {ss : Srs} (h1 : ValidF nm now wd room its ts ps) (h2 : ss.length = ps.length) (h3 : ∀ i, i < ss.length → ValidSt (sat ss i).wd (sat ss i).room (sat ss i).its (sat ss i).ts ∧ (sat ss i).wd = wd) : ValidW (newW nm now full wd room its ts ps ss) :=
  ⟨h1, by simp, h2, by simp, Int.le_refl _, h3, fun i hi => absurd hi (by simp)⟩
theorem rdi0 (w : World) : RdI w (.slice none 0 0) [] := ⟨_, _, rfl, fun i h => absurd h (by simp)⟩
theorem rdW0 (w : World) : RdW w (.slice none 0 0) (.slice none 0 0) (.slice none 0 0) (.slice none 0 0) (.slice none 0 0) (.slice none 0 0) wd0 :=
  ⟨rdi0 w, .inl ⟨rfl, _, _, rfl⟩, ⟨_, _, rfl, fun i h => absurd h (by simp [wd0])⟩, ⟨_, _, rfl, fun i h => absurd h (by simp [wd0])⟩, ⟨_, _, rfl, fun i h => absurd h (by simp [wd0])⟩, ⟨_, _, rfl, fun i h => absurd h (by simp [wd0])⟩⟩
/-- What NewWorld answers, as it is read. -/
def NewWR (x : Wd) (w : World) (e : Ending) (w' : World) : Prop := ∃ y vi vp vq vu vs vm, e = .returned (wval y.nm y.now y.full y.wd y.room vi vp vq vu vs vm y.wst) ∧ (ValidW x ∧ y = x ∨ ¬ ValidW x ∧ y = wd0) ∧ RdW w' vi vp vq vu vs vm y ∧ Below w.heap.size w w'
theorem NewWR.no {x : Wd} {w w' : World} (h : ¬ ValidW x) (hb : Below w.heap.size w w') : NewWR x w (.returned (.agg #[.string ⟨#[]⟩, .int .i64 0, .bool false, .int .i64 0, .int .i64 0, .slice none 0 0, .slice none 0 0, .slice none 0 0, .slice none 0 0, .slice none 0 0, .slice none 0 0, .int .i64 0])) w' := ⟨wd0, _, _, _, _, _, _, rfl, .inr ⟨h, rfl⟩, rdW0 w', hb⟩
theorem NewWR.yes {x : Wd} {w w' : World} {vi vp vq vu vs vm : Value} (h : ValidW x) (hr : RdW w' vi vp vq vu vs vm x) (hb : Below w.heap.size w w') : NewWR x w (.returned (wval x.nm x.now x.full x.wd x.room vi vp vq vu vs vm x.wst)) w' := ⟨x, _, _, _, _, _, _, rfl, .inl ⟨h, rfl⟩, hr, hb⟩
theorem rdb_row {w : World} {B : Nat} {v : Value} {bs : List Bool} (h : w.ownsRow B 4 1 v bs.length (bs.map Value.bool)) : RdB w v bs := by
  have hr := h
  rcases h with ⟨_, ⟨rfl, h0⟩ | ⟨g, cap, cur, rfl, hb, hg, _⟩⟩
  · have : bs = [] := List.eq_nil_of_length_eq_zero h0
    subst this
    exact ⟨_, 0, rfl, fun i hi => absurd hi (by simp)⟩
  · refine ⟨_, cap, rfl, fun i hi => ⟨g, 0, rfl, (Array.getElem?_eq_some_iff.1 hg).1, ?_⟩⟩
    rw [Nat.zero_add, hr.cellAt i (by omega)]
    simp [hi]
/-- What stays in memory while a new world is made. -/
structure NewAt (w0 : World) (fc : Array Value) (v2 p2 q2 : Value) (its : Itms) (ts : List ByteArray) (qs : PV) (W : World) : Prop where
  arg : Blk W w0.heap.size 37 fc
  res : Blk W (w0.heap.size + 1) 42 #[.string ⟨#[]⟩, .int .i64 0, .bool false, .int .i64 0, .int .i64 0, .slice none 0 0, .slice none 0 0, .slice none 0 0, .slice none 0 0, .slice none 0 0, .slice none 0 0, .int .i64 0]
  fetch : FetchOwn W (w0.heap.size + 2) v2 p2 q2 its ts qs
  below : Below w0.heap.size w0 W
theorem NewAt.below' {w0 W W' : World} {fc : Array Value} {v2 p2 q2 : Value} {its : Itms} {ts : List ByteArray} {qs : PV} (h : NewAt w0 fc v2 p2 q2 its ts qs W) (hb : Below W.heap.size W W') : NewAt w0 fc v2 p2 q2 its ts qs W' :=
  ⟨h.arg.below hb, h.res.below hb, h.fetch.below hb, h.below.trans (hb.mono h.below.size)⟩
theorem NewAt.grow {w0 W W' : World} {fc : Array Value} {v2 p2 q2 : Value} {its : Itms} {ts : List ByteArray} {qs : PV} {r : Option Nat} (h : NewAt w0 fc v2 p2 q2 its ts qs W) (hg : W.grownBy W' r) (hr : ∀ b, r = some b → w0.heap.size + 2 ≤ b ∧ ¬ FBlk v2 p2 q2 qs b) : NewAt w0 fc v2 p2 q2 its ts qs W' :=
  have hz := h.res.lt
  have hb : Below (w0.heap.size + 2) W W' := (Below.refl _ W).grown hg (by omega) (fun b e => (hr b e).1)
  ⟨h.arg.belowAt hb (by omega), h.res.belowAt hb (by omega), h.fetch.same fun b k => hg.block b (h.fetch.lt b k).2 (fun e => (hr b e.symm).2 k), h.below.trans (hb.mono (by omega))⟩
theorem NewAt.noBlk {w0 W : World} {fc : Array Value} {v2 p2 q2 : Value} {its : Itms} {ts : List ByteArray} {qs : PV} {b : Nat} {T : TypeId} {cs : Array Value} (h : NewAt w0 fc v2 p2 q2 its ts qs W) (hb : Blk W b T cs) (h1 : 84 ≠ T) (h2 : 9 ≠ T) (h3 : 81 ≠ T) : ¬ FBlk v2 p2 q2 qs b := fun hf => by
  rcases hf with hf | hf | hf | ⟨i, hi, hf⟩
  · exact row_off_blk h.fetch.store.items hb h1 hf
  · exact row_off_blk h.fetch.store.pins hb h2 hf
  · exact row_off_blk h.fetch.peers.row hb h3 hf
  · exact row_off_blk (h.fetch.peers.nots i hi) hb h2 hf
theorem NewAt.noRow {w0 W : World} {fc : Array Value} {v2 p2 q2 v : Value} {its : Itms} {ts : List ByteArray} {qs : PV} {B s n b : Nat} {e : TypeId} {xs : List Value} (h : NewAt w0 fc v2 p2 q2 its ts qs W) (k : W.ownsRow B e s v n xs) (h1 : 84 ≠ e) (h2 : 9 ≠ e) (h3 : 81 ≠ e) (hv : v.ownBlock = some b) : ¬ FBlk v2 p2 q2 qs b := fun hf => by
  rcases hf with hf | hf | hf | ⟨i, hi, hf⟩
  · exact row_other h.fetch.store.items k h1 hf hv
  · exact row_other h.fetch.store.pins k h2 hf hv
  · exact row_other h.fetch.peers.row k h3 hf hv
  · exact row_other (h.fetch.peers.nots i hi) k h2 hf hv
/-- An own row and a block of another kind that is written. -/
theorem row_besides {w w' : World} {B s n b : Nat} {e T : TypeId} {v : Value} {xs : List Value} {cs : Array Value} (h : w.ownsRow B e s v n xs) (hb : Blk w b T cs) (hne : e ≠ T) (hg : w.grownBy w' (some b)) : w'.ownsRow B e s v n xs := by
  refine h.kept hg ?_
  cases hv : v.ownBlock with
  | none => exact .inl rfl
  | some g => exact .inr fun e => row_off_blk h hb hne (hv.trans e)
theorem StoresOwn.besides {w w' : World} {B b : Nat} {T : TypeId} {v : Value} {ss : SV} {cs : Array Value} (h : StoresOwn w B v ss) (hb : Blk w b T cs) (h1 : 84 ≠ T) (h2 : 9 ≠ T) (h3 : 34 ≠ T) (hg : w.grownBy w' (some b)) : StoresOwn w' B v ss :=
  ⟨row_besides h.row hb h3 hg, fun i hi => ⟨row_besides (h.each i hi).items hb h1 hg, row_besides (h.each i hi).pins hb h2 hg, (h.each i hi).apart⟩, h.apartI, h.apartP⟩
theorem StoresOwn.stays {w w' : World} {B B' n s : Nat} {e : TypeId} {v v' : Value} {ss : SV} {xs : List Value} (h : StoresOwn w B v ss) (k : w.ownsRow B' e s v' n xs) (h1 : 84 ≠ e) (h2 : 9 ≠ e) (h3 : 34 ≠ e) (hg : w.grownBy w' v'.ownBlock) : StoresOwn w' B v ss :=
  ⟨row_stays h.row k h3 hg, fun i hi => (h.each i hi).stays k h1 h2 hg, h.apartI, h.apartP⟩
theorem sat_fst (ss : SV) (i : Nat) (h : i < ss.length) : sat (ss.map Prod.fst) i = stp ss i := by simp [sat, stp, h]
theorem yes_end {nm : ByteArray} {now : Int} {full : Bool} {wd room : Int} {its : Itms} {ts : List ByteArray} {qs qs2 : PV} {ss os : SV} {w w' : World} {v2 p2 q2 vu vt : Value} {B1 B2 B3 : Nat} (hv : ValidW (newW nm now full wd room its ts (qs.map Prod.fst) (ss.map Prod.fst))) (hq : qs2.map Prod.fst = qs.map Prod.fst) (hl : ss.length = qs.length) (ho : os.map Prod.fst = ss.map Prod.fst) (hf : FetchOwn w' B1 v2 p2 q2 its ts qs2) (hu : w'.ownsRow B2 4 1 vu ss.length ((List.replicate ss.length true).map Value.bool)) (ht : StoresOwn w' B3 vt os) (hb : Below w.heap.size w w') : NewWR (newW nm now full wd room its ts (qs.map Prod.fst) (ss.map Prod.fst)) w (.returned (wval nm now full wd room v2 p2 q2 vu vt (.slice none 0 0) 0)) w' := by
  have hp := hf.peers.rdp
  rw [hq] at hp
  have hs := ht.rds
  rw [ho] at hs
  have hr : w'.ownsRow B2 4 1 vu (List.replicate (qs.map Prod.fst).length true).length ((List.replicate (qs.map Prod.fst).length true).map Value.bool) := by rw [List.length_replicate, List.length_map, ← hl]; exact hu
  exact NewWR.yes (x := newW nm now full wd room its ts (qs.map Prod.fst) (ss.map Prod.fst)) hv ⟨hf.store.rdi, Reads.of_row hf.store.pins, hp, rdb_row hr, hs, ⟨_, _, rfl, fun i h => absurd h (by simp)⟩⟩ hb
theorem Tryz.infoBool2 : (Tryz.prog.info? 4).map (fun i => (i.zero, i.size, i.bytes)) = some (some (.bool false), 1, 1) := by kernel_rfl
set_option maxRecDepth 100000 in
set_option maxHeartbeats 16000000 in
theorem specNewWorld_any (nm : ByteArray) (now : Int) (full : Bool) (wd room : Int) (vi vp vq vs : Value) (its : Itms) (ts : List ByteArray) (qs : PV) (ss : SV) (w : World) (B : Nat) (hf : FetchOwn w B vi vp vq its ts qs) (ht : StoresOwn w B vs ss) (hli : its.length ≤ 1048576) (hlp : ts.length ≤ 1048576) (hlq : qs.length ≤ 1048576) (hsi : ∀ i, (itx its i).size ≤ 1048576) (hsp : ∀ i, (tv ts i).size ≤ 1048576) (hpf : PsFit 1048576 (qs.map Prod.fst)) (hnl : ∀ i, i < qs.length → (qp qs i).nots.length ≤ 1048576) (hls : ss.length ≤ 1048576) (hfs : SsFit 1048576 (ss.map Prod.fst)) :
    Calls Tryz.prog 6 #[fval nm now full wd room vi vp vq, vs] w fun e w' => NewWR (newW nm now full wd room its ts (qs.map Prod.fst) (ss.map Prod.fst)) w e w' := by
  obtain ⟨ai, ci, rfl⟩ := row_any hf.store.items
  obtain ⟨ap, cp, rfl⟩ := row_any hf.store.pins
  obtain ⟨aq, cq, rfl⟩ := row_any hf.peers.row
  obtain ⟨ax, cx, rfl⟩ := row_any ht.row
  have hA := ((Below.refl w.heap.size w).alloc (Nat.le_refl _) (.cells #[.string nm, .int .i64 now, .bool full, .int .i64 wd, .int .i64 room, .slice ai its.length ci, .slice ap ts.length cp, .slice aq qs.length cq] 37)).alloc (by simp) (.cells #[.string ⟨#[]⟩, .int .i64 0, .bool false, .int .i64 0, .int .i64 0, .slice none 0 0, .slice none 0 0, .slice none 0 0, .slice none 0 0, .slice none 0 0, .slice none 0 0, .int .i64 0] 42)
  have HN := hid ((Blk.new w 37 #[.string nm, .int .i64 now, .bool full, .int .i64 wd, .int .i64 room, .slice ai its.length ci, .slice ap ts.length cp, .slice aq qs.length cq]).alloc (.cells #[.string ⟨#[]⟩, .int .i64 0, .bool false, .int .i64 0, .int .i64 0, .slice none 0 0, .slice none 0 0, .slice none 0 0, .slice none 0 0, .slice none 0 0, .slice none 0 0, .int .i64 0] 42))
  have hN7 := Blk.new (w.alloc (.cells #[.string nm, .int .i64 now, .bool full, .int .i64 wd, .int .i64 room, .slice ai its.length ci, .slice ap ts.length cp, .slice aq qs.length cq] 37)) 42 #[.string ⟨#[]⟩, .int .i64 0, .bool false, .int .i64 0, .int .i64 0, .slice none 0 0, .slice none 0 0, .slice none 0 0, .slice none 0 0, .slice none 0 0, .slice none 0 0, .int .i64 0]
  rw [World.size_alloc] at hN7
  have HN7 := hid hN7
  have hfA := hf.below hA
  have HV := hid (specValidFetch_any nm now full wd room _ _ _ its ts (qs.map Prod.fst) _ hfA.store.rdi (Reads.of_row hfA.store.pins) hfA.peers.rdp hli hlp (by rw [List.length_map]; exact hlq) hsi hsp hpf)
  have HCP := hid fun (W : World) (h : FetchOwn W B (.slice ai its.length ci) (.slice ap ts.length cp) (.slice aq qs.length cq) its ts qs) => l7Copy_any nm now full wd room _ _ _ its ts qs W B h hli hlp hlq hnl
  have HF := hid hf
  have HT := hid ht
  have HA := hid hA
  have hs0 : ((w.alloc (.cells #[.string nm, .int .i64 now, .bool full, .int .i64 wd, .int .i64 room, .slice ai its.length ci, .slice ap ts.length cp, .slice aq qs.length cq] 37)).alloc (.cells #[.string ⟨#[]⟩, .int .i64 0, .bool false, .int .i64 0, .int .i64 0, .slice none 0 0, .slice none 0 0, .slice none 0 0, .slice none 0 0, .slice none 0 0, .slice none 0 0, .int .i64 0] 42)).heap.size = w.heap.size + 2 := by rw [World.size_alloc, World.size_alloc]
  have HS0 := hid hs0
  have HSF := hid hfs
  clear hf ht hA hN7 hfA hs0 hsi hsp hpf hnl hfs
  go_enter Tryz.func6, Tryz.ntmps6
  go_wp2_with fail
  refine HV.out.mono ?_
  rintro e w1 ⟨b, rfl, hb, hb1⟩
  have N1 := HN.out.below hb1
  have N7 := HN7.out.below hb1
  have B1 := HA.out.trans (hb1.mono (by have := HS0.out; omega))
  have hs1 := hb1.size
  clear hb1 HV
  cases b with
  | false =>
    have HNO : Hid (¬ ValidW (newW nm now full wd room its ts (qs.map Prod.fst) (ss.map Prod.fst))) := fun h => by have := hb.2 h.fetch; cases this
    clear hb
    have s12 := N7.store12 (.string ⟨#[]⟩) (.int .i64 0) (.bool false) (.int .i64 0) (.int .i64 0) (.slice none 0 0) (.slice none 0 0) (.slice none 0 0) (.slice none 0 0) (.slice none 0 0) (.slice none 0 0) (.int .i64 0)
    have ZZ := hid (N7.set12 (.string ⟨#[]⟩) (.int .i64 0) (.bool false) (.int .i64 0) (.int .i64 0) (.slice none 0 0) (.slice none 0 0) (.slice none 0 0) (.slice none 0 0) (.slice none 0 0) (.slice none 0 0) (.int .i64 0))
    have BB := hid (below_set12 B1 (b := w.heap.size + 1) (by omega) (Nat.le_refl _) (.string ⟨#[]⟩) (.int .i64 0) (.bool false) (.int .i64 0) (.int .i64 0) (.slice none 0 0) (.slice none 0 0) (.slice none 0 0) (.slice none 0 0) (.slice none 0 0) (.slice none 0 0) (.int .i64 0))
    have GG := hid (grown_set12 w1 (w.heap.size + 1) (.string ⟨#[]⟩) (.int .i64 0) (.bool false) (.int .i64 0) (.int .i64 0) (.slice none 0 0) (.slice none 0 0) (.slice none 0 0) (.slice none 0 0) (.slice none 0 0) (.slice none 0 0) (.int .i64 0))
    obtain ⟨q0, k0, q1, k1, q2, k2, q3, k3, q4, k4, q5, k5, q6, k6, q7, k7, q8, k8, q9, k9, q10, k10, q11, k11⟩ := s12
    clear N1 N7 B1
    go_wp2
    rw [set12_def]
    exact bodyPost_ret (v := .agg #[.string ⟨#[]⟩, .int .i64 0, .bool false, .int .i64 0, .int .i64 0, .slice none 0 0, .slice none 0 0, .slice none 0 0, .slice none 0 0, .slice none 0 0, .slice none 0 0, .int .i64 0]) (by simp [results, Tryz.results6, go_sem, ZZ.out.cell]) rfl (NewWR.no HNO.out BB.out)
  | true =>
  have HVF := hid (hb.1 rfl)
  clear hb
  have x7 : w1.cell? ⟨w.heap.size, 7, none⟩ = some (.slice aq qs.length cq) := N1.cell 7
  by_cases hlen : ss.length = qs.length
  case neg =>
    have HNO : Hid (¬ ValidW (newW nm now full wd room its ts (qs.map Prod.fst) (ss.map Prod.fst))) := fun h => by have := h.many; simp at this; exact hlen this
    have hle : ((((ss.length : Nat) : Int)) == ((qs.length : Nat) : Int)) = false := by simp; omega
    clear hlen
    go_upto_region 2 with fail
    clear x7 hle
    have s12 := N7.store12 (.string ⟨#[]⟩) (.int .i64 0) (.bool false) (.int .i64 0) (.int .i64 0) (.slice none 0 0) (.slice none 0 0) (.slice none 0 0) (.slice none 0 0) (.slice none 0 0) (.slice none 0 0) (.int .i64 0)
    have ZZ := hid (N7.set12 (.string ⟨#[]⟩) (.int .i64 0) (.bool false) (.int .i64 0) (.int .i64 0) (.slice none 0 0) (.slice none 0 0) (.slice none 0 0) (.slice none 0 0) (.slice none 0 0) (.slice none 0 0) (.int .i64 0))
    have BB := hid (below_set12 B1 (b := w.heap.size + 1) (by omega) (Nat.le_refl _) (.string ⟨#[]⟩) (.int .i64 0) (.bool false) (.int .i64 0) (.int .i64 0) (.slice none 0 0) (.slice none 0 0) (.slice none 0 0) (.slice none 0 0) (.slice none 0 0) (.slice none 0 0) (.int .i64 0))
    have GG := hid (grown_set12 w1 (w.heap.size + 1) (.string ⟨#[]⟩) (.int .i64 0) (.bool false) (.int .i64 0) (.int .i64 0) (.slice none 0 0) (.slice none 0 0) (.slice none 0 0) (.slice none 0 0) (.slice none 0 0) (.slice none 0 0) (.int .i64 0))
    obtain ⟨q0, k0, q1, k1, q2, k2, q3, k3, q4, k4, q5, k5, q6, k6, q7, k7, q8, k8, q9, k9, q10, k10, q11, k11⟩ := s12
    clear N1 N7 B1
    go_wp2
    rw [set12_def]
    exact bodyPost_ret (v := .agg #[.string ⟨#[]⟩, .int .i64 0, .bool false, .int .i64 0, .int .i64 0, .slice none 0 0, .slice none 0 0, .slice none 0 0, .slice none 0 0, .slice none 0 0, .slice none 0 0, .int .i64 0]) (by simp [results, Tryz.results6, go_sem, ZZ.out.cell]) rfl (NewWR.no HNO.out BB.out)
  have hle : ((((ss.length : Nat) : Int)) == ((qs.length : Nat) : Int)) = true := by simp; omega
  have HLE := hid hlen
  have HCP1 := hid (HCP.out w1 (HF.out.below B1))
  have x0 : w1.cell? ⟨w.heap.size, 0, none⟩ = some (.string nm) := N1.cell 0
  have x1 : w1.cell? ⟨w.heap.size, 1, none⟩ = some (.int .i64 now) := N1.cell 1
  have x2 : w1.cell? ⟨w.heap.size, 2, none⟩ = some (.bool full) := N1.cell 2
  have x3 : w1.cell? ⟨w.heap.size, 3, none⟩ = some (.int .i64 wd) := N1.cell 3
  have x4 : w1.cell? ⟨w.heap.size, 4, none⟩ = some (.int .i64 room) := N1.cell 4
  have x5 : w1.cell? ⟨w.heap.size, 5, none⟩ = some (.slice ai its.length ci) := N1.cell 5
  have x6 : w1.cell? ⟨w.heap.size, 6, none⟩ = some (.slice ap ts.length cp) := N1.cell 6
  have HN1 := hid N1
  have HN71 := hid N7
  have HB1 := hid B1
  clear hlen HCP N1 N7 B1
  go_wp2_with fail
  refine HCP1.out.mono ?_
  rintro e w2 ⟨v2, p2, q2, qs2, rfl, hqs2, fo2, hb2⟩
  have hs2 := hb2.size
  have hB2 := HB1.out.size
  have hlt7 := HN71.out.lt
  obtain ⟨a2, c2, rfl⟩ := row_any fo2.store.items
  obtain ⟨b2, d2, rfl⟩ := row_any fo2.store.pins
  obtain ⟨e2, f2, rfl⟩ := row_any fo2.peers.row
  have hA3 := (Below.refl w2.heap.size w2).alloc (Nat.le_refl _) (.cells #[.string nm, .int .i64 now, .bool full, .int .i64 wd, .int .i64 room, .slice a2 its.length c2, .slice b2 ts.length d2, .slice e2 qs2.length f2, .slice none 0 0, .slice none 0 0, .slice none 0 0, .int .i64 0] 42)
  have HNA : Hid (NewAt w #[.string nm, .int .i64 now, .bool full, .int .i64 wd, .int .i64 room, .slice ai its.length ci, .slice ap ts.length cp, .slice aq qs.length cq] (.slice a2 its.length c2) (.slice b2 ts.length d2) (.slice e2 qs2.length f2) its ts qs2 (w2.alloc (.cells #[.string nm, .int .i64 now, .bool full, .int .i64 wd, .int .i64 room, .slice a2 its.length c2, .slice b2 ts.length d2, .slice e2 qs2.length f2, .slice none 0 0, .slice none 0 0, .slice none 0 0, .int .i64 0] 42))) := hid ⟨(HN1.out.below hb2).below hA3, (HN71.out.below hb2).below hA3, (fo2.base (by omega)).below hA3, (HB1.out.trans (hb2.mono hB2)).trans (hA3.mono (by omega))⟩
  have HBX : Hid (Blk (w2.alloc (.cells #[.string nm, .int .i64 now, .bool full, .int .i64 wd, .int .i64 room, .slice a2 its.length c2, .slice b2 ts.length d2, .slice e2 qs2.length f2, .slice none 0 0, .slice none 0 0, .slice none 0 0, .int .i64 0] 42)) w2.heap.size 42 #[.string nm, .int .i64 now, .bool full, .int .i64 wd, .int .i64 room, .slice a2 its.length c2, .slice b2 ts.length d2, .slice e2 qs2.length f2, .slice none 0 0, .slice none 0 0, .slice none 0 0, .int .i64 0]) := hid (Blk.new w2 _ _)
  have hob : w.heap.size + 2 ≤ w2.heap.size := by omega
  have HQ2 := hid hqs2
  clear fo2 hb2 hA3 hqs2 HCP1 HB1 HN1 HN71 x0 x1 x2 x3 x4 x5 x6 x7 HF
  go_wp2
  obtain ⟨w3, hw3⟩ : ∃ x, x = w2.alloc (.cells #[.string nm, .int .i64 now, .bool full, .int .i64 wd, .int .i64 room, .slice a2 its.length c2, .slice b2 ts.length d2, .slice e2 qs2.length f2, .slice none 0 0, .slice none 0 0, .slice none 0 0, .int .i64 0] 42) := ⟨_, rfl⟩
  rw [← hw3] at HNA HBX ⊢
  clear hw3
  generalize w2.heap.size = ob at *
  clear hs2
  go_loopw [6] (fun i' wr => ∃ (i : Nat) (vu vt : Value) (os : SV), i ≤ ss.length ∧ i' = .int .i64 i ∧ NewAt w #[.string nm, .int .i64 now, .bool full, .int .i64 wd, .int .i64 room, .slice ai its.length ci, .slice ap ts.length cp, .slice aq qs.length cq] (.slice a2 its.length c2) (.slice b2 ts.length d2) (.slice e2 qs2.length f2) its ts qs2 wr ∧ Blk wr ob 42 #[.string nm, .int .i64 now, .bool full, .int .i64 wd, .int .i64 room, .slice a2 its.length c2, .slice b2 ts.length d2, .slice e2 qs2.length f2, vu, vt, .slice none 0 0, .int .i64 0] ∧ wr.ownsRow (w.heap.size + 2) 4 1 vu i ((List.replicate i true).map Value.bool) ∧ StoresOwn wr (w.heap.size + 2) vt os ∧ Hid (os.map Prod.fst = (ss.map Prod.fst).take i) ∧ Hid (∀ j, j < i → ValidSt (stp ss j).wd (stp ss j).room (stp ss j).its (stp ss j).ts ∧ (stp ss j).wd = wd)) (fun i' _ => ss.length - (intOf i').toNat)
  case atStart => exact ⟨0, _, _, [], Nat.zero_le _, rfl, HNA.out, HBX.out, World.ownsRow_nil _ _ _ _, StoresOwn.none _ _, by show _ = _; simp, by intro j hj; omega⟩
  case round =>
    obtain ⟨i, vu, vt, os, hil, rfl, hna, hbx, hbu, hst, hos, hok⟩ := hrel
    obtain ⟨au, cu, rfl⟩ := row_any hbu
    obtain ⟨at', ct, rfl⟩ := row_any hst.row
    have hol : os.length = i := by have := congrArg List.length hos.out; simp at this; omega
    have hol1 : os.length ≤ i := by omega
    have hol2 : i ≤ os.length := by omega
    have hzr := hna.res.lt
    clear hol
    by_cases hlt : i < ss.length
    case neg =>
      obtain rfl : i = ss.length := by omega
      have HVW : Hid (ValidW (newW nm now full wd room its ts (qs.map Prod.fst) (ss.map Prod.fst))) := hid (newW_valid HVF.out (by simp; exact HLE.out) (fun j hj => by rw [List.length_map] at hj; rw [sat_fst ss j hj]; exact hok.out j hj))
      have hse : os.map Prod.fst = ss.map Prod.fst := by rw [hos.out, List.take_of_length_le (by simp)]
      have y : wr.cell? ⟨ob, 0, none⟩ = some (.string nm) ∧ wr.cell? ⟨ob, 1, none⟩ = some (.int .i64 now) ∧ wr.cell? ⟨ob, 2, none⟩ = some (.bool full) ∧ wr.cell? ⟨ob, 3, none⟩ = some (.int .i64 wd) ∧ wr.cell? ⟨ob, 4, none⟩ = some (.int .i64 room) ∧ wr.cell? ⟨ob, 5, none⟩ = some (.slice a2 its.length c2) ∧ wr.cell? ⟨ob, 6, none⟩ = some (.slice b2 ts.length d2) ∧ wr.cell? ⟨ob, 7, none⟩ = some (.slice e2 qs2.length f2) ∧ wr.cell? ⟨ob, 8, none⟩ = some (.slice au ss.length cu) ∧ wr.cell? ⟨ob, 9, none⟩ = some (.slice at' os.length ct) ∧ wr.cell? ⟨ob, 10, none⟩ = some (.slice none 0 0) ∧ wr.cell? ⟨ob, 11, none⟩ = some (.int .i64 0) := ⟨hbx.cell 0, hbx.cell 1, hbx.cell 2, hbx.cell 3, hbx.cell 4, hbx.cell 5, hbx.cell 6, hbx.cell 7, hbx.cell 8, hbx.cell 9, hbx.cell 10, hbx.cell 11⟩
      obtain ⟨y0, y1, y2, y3, y4, y5, y6, y7, y8, y9, y10, y11⟩ := y
      have HNE := hid hna
      have HBU := hid hbu
      have HST := hid hst
      have HSE := hid hse
      clear hse hst hbu hbx hos hok

      have s12 := hna.res.store12 (.string nm) (.int .i64 now) (.bool full) (.int .i64 wd) (.int .i64 room) (.slice a2 its.length c2) (.slice b2 ts.length d2) (.slice e2 qs2.length f2) (.slice au ss.length cu) (.slice at' os.length ct) (.slice none 0 0) (.int .i64 0)
      have ZZ := hid (hna.res.set12 (.string nm) (.int .i64 now) (.bool full) (.int .i64 wd) (.int .i64 room) (.slice a2 its.length c2) (.slice b2 ts.length d2) (.slice e2 qs2.length f2) (.slice au ss.length cu) (.slice at' os.length ct) (.slice none 0 0) (.int .i64 0))
      have BB := hid (below_set12 hna.below (b := w.heap.size + 1) (by omega) (Nat.le_refl _) (.string nm) (.int .i64 now) (.bool full) (.int .i64 wd) (.int .i64 room) (.slice a2 its.length c2) (.slice b2 ts.length d2) (.slice e2 qs2.length f2) (.slice au ss.length cu) (.slice at' os.length ct) (.slice none 0 0) (.int .i64 0))
      have GG := hid (grown_set12 wr (w.heap.size + 1) (.string nm) (.int .i64 now) (.bool full) (.int .i64 wd) (.int .i64 room) (.slice a2 its.length c2) (.slice b2 ts.length d2) (.slice e2 qs2.length f2) (.slice au ss.length cu) (.slice at' os.length ct) (.slice none 0 0) (.int .i64 0))
      obtain ⟨q0, k0, q1, k1, q2, k2, q3, k3, q4, k4, q5, k5, q6, k6, q7, k7, q8, k8, q9, k9, q10, k10, q11, k11⟩ := s12
      clear hna
      go_wp2
      rw [set12_def]
      exact bodyPost_ret (v := .agg #[.string nm, .int .i64 now, .bool full, .int .i64 wd, .int .i64 room, .slice a2 its.length c2, .slice b2 ts.length d2, .slice e2 qs2.length f2, .slice au ss.length cu, .slice at' os.length ct, .slice none 0 0, .int .i64 0]) (by simp [results, Tryz.results6, go_sem, ZZ.out.cell]) rfl (yes_end HVW.out HQ2.out HLE.out HSE.out (HNE.out.fetch.same fun b k => GG.out.block b (HNE.out.fetch.lt b k).2 (fun e => HNE.out.noBlk HNE.out.res (by decide) (by decide) (by decide) (Option.some.inj e ▸ k))) (row_besides HBU.out HNE.out.res (by decide) GG.out) (HST.out.besides HNE.out.res (by decide) (by decide) (by decide) GG.out) BB.out)
    have HT0 := hid (HT.out.below hna.below)
    obtain ⟨gx, kx, ex, hgx, hgxl⟩ := World.ownsRow.form HT0.out.row (by omega)
    obtain ⟨rfl, _, rfl⟩ : ax = some ⟨gx, 0, none⟩ ∧ ss.length = ss.length ∧ cx = kx := Value.slice.inj ex
    clear ex
    have hsat : sat (ss.map Prod.fst) i = stp ss i := sat_fst ss i hlt
    have hfi := HSF.out i (by rw [List.length_map]; exact hlt)
    rw [hsat] at hfi
    have hT4 := cellsT_at ss i hlt
    have HEI := hid (HT.out.each i hlt)
    obtain ⟨a4, c4, hv4⟩ := row_any HEI.out.items
    obtain ⟨b4, d4, hv5⟩ := row_any HEI.out.pins
    rw [hv4, hv5] at hT4 HEI
    have HTK : Hid ((ss.map Prod.fst).take (i + 1) = (ss.map Prod.fst).take i ++ [stp ss i]) := hid (by rw [List.take_succ_eq_append_getElem (by rw [List.length_map]; exact hlt), List.getElem_map, ss_at ss i hlt])
    have HVI := hid fun (h : ValidW (newW nm now full wd room its ts (qs.map Prod.fst) (ss.map Prod.fst))) => (by have := h.each i (by show i < (ss.map Prod.fst).length; rw [List.length_map]; exact hlt); rw [hsat] at this; exact this : ValidSt (stp ss i).wd (stp ss i).room (stp ss i).its (stp ss i).ts ∧ (stp ss i).wd = wd)
    have HOK : Hid (ValidSt (stp ss i).wd (stp ss i).room (stp ss i).its (stp ss i).ts ∧ (stp ss i).wd = wd → ∀ j, j < i + 1 → ValidSt (stp ss j).wd (stp ss j).room (stp ss j).its (stp ss j).ts ∧ (stp ss j).wd = wd) := fun h j hj => by
      by_cases e : j = i
      · rw [e]; exact h
      · exact hok.out j (by omega)
    have HSN : Hid (∀ (w6 : World) (v' vi' vp' : Value) (W : World), StoresOwn W (w.heap.size + 2) (.slice at' os.length ct) os → W.grownBy w6 (Value.slice at' os.length ct).ownBlock → w6.ownsRow (w.heap.size + 2) 34 4 v' (os.length + 1) (cellsT os ++ [.int .i64 (stp ss i).wd, .int .i64 (stp ss i).room, vi', vp']) → StoreOwn W (w.heap.size + 2) vi' vp' (stp ss i).its (stp ss i).ts → (∀ j, j < os.length → ∀ g, (sti os j).ownBlock = some g → vi'.ownBlock ≠ some g) → (∀ j, j < os.length → ∀ g, (stq os j).ownBlock = some g → vp'.ownBlock ≠ some g) → ∃ o' : SV, StoresOwn w6 (w.heap.size + 2) v' o' ∧ o'.length = os.length + 1 ∧ o'.map Prod.fst = (ss.map Prod.fst).take (i + 1)) := fun w6 v' vi' vp' W h1 h2 h3 h4 h5 h6 => ⟨os ++ [(stp ss i, vi', vp')], h1.snoc h2 h3 h4 h5 h6, by simp, by rw [List.map_append, hos.out, HTK.out]; rfl⟩
    have HVS := hid fun (W : World) (h : StoreOwn W B (.slice a4 (stp ss i).its.length c4) (.slice b4 (stp ss i).ts.length d4) (stp ss i).its (stp ss i).ts) => specValidStore_any (stp ss i).wd (stp ss i).room _ _ (stp ss i).its (stp ss i).ts W h.rdi (Reads.of_row h.pins) hfi.its hfi.ts hfi.each hfi.tach
    have HLC := hid fun (W : World) (h : StoreOwn W B (.slice a4 (stp ss i).its.length c4) (.slice b4 (stp ss i).ts.length d4) (stp ss i).its (stp ss i).ts) => l4Copy_row (stp ss i).wd (stp ss i).room _ _ (stp ss i).its (stp ss i).ts W B B h.items h.pins hfi.its hfi.ts
    have hr0 := HT.out.row
    obtain ⟨t0, t1, t2, t3⟩ := hT4
    have c0 := (hr0.cellAt (i * 4) (by omega)).trans t0
    have c1 := (hr0.cellAt (i * 4 + 1) (by omega)).trans t1
    have c2' := (hr0.cellAt (i * 4 + 2) (by omega)).trans t2
    have c3 := (hr0.cellAt (i * 4 + 3) (by omega)).trans t3
    have hgl : gx < w.heap.size := (hr0.lt gx rfl).2
    clear hsat hfi hv4 hv5 hok hos t0 t1 t2 t3 hr0 hgx hgxl HTK HT0
    generalize (stp ss i) = pr at *
    obtain ⟨pw, prm, pi, pt⟩ := pr
    dsimp only at *
    have HSC : Hid (∀ W, Below w.heap.size w W → W.cell? ⟨gx, i * 4, none⟩ = some (.int .i64 pw) ∧ W.cell? ⟨gx, i * 4 + 1, none⟩ = some (.int .i64 prm) ∧ W.cell? ⟨gx, i * 4 + 2, none⟩ = some (.slice a4 pi.length c4) ∧ W.cell? ⟨gx, i * 4 + 3, none⟩ = some (.slice b4 pt.length d4)) := fun W h => ⟨(h.cell (p := ⟨gx, i * 4, none⟩) hgl).trans c0, (h.cell (p := ⟨gx, i * 4 + 1, none⟩) hgl).trans c1, (h.cell (p := ⟨gx, i * 4 + 2, none⟩) hgl).trans c2', (h.cell (p := ⟨gx, i * 4 + 3, none⟩) hgl).trans c3⟩
    obtain ⟨w5, hw5⟩ : ∃ x, x = wr.drew := ⟨_, rfl⟩
    have hbd : Below wr.heap.size wr w5 := by rw [hw5]; exact below_drewN (Below.refl _ _) 1
    have HNA5 := hid (hna.below' hbd)
    have HBX5 := hid (hbx.below hbd)
    have HBU5 := hid (Below.row hbd hbu)
    have HST5 := hid (hst.below hbd)
    have HEI5 := hid (HEI.out.below HNA5.out.below)
    have hS5 : w5.cell? ⟨gx, i * 4, none⟩ = some (.int .i64 pw) ∧ w5.cell? ⟨gx, i * 4 + 1, none⟩ = some (.int .i64 prm) ∧ w5.cell? ⟨gx, i * 4 + 2, none⟩ = some (.slice a4 pi.length c4) ∧ w5.cell? ⟨gx, i * 4 + 3, none⟩ = some (.slice b4 pt.length d4) ∧ w5.cell? ⟨w.heap.size, 3, none⟩ = some (.int .i64 wd) := by obtain ⟨s1, s2, s3, s4⟩ := HSC.out w5 HNA5.out.below; exact ⟨s1, s2, s3, s4, HNA5.out.arg.cell 3⟩
    clear hna hbx hbu hst hbd c0 c1 c2' c3
    go_upto_region 7 with fail
    refine wp_region_held (S := fun w' => w'.cell? ⟨gx, i * 4, none⟩ = some (.int .i64 pw) ∧ w'.cell? ⟨gx, i * 4 + 1, none⟩ = some (.int .i64 prm) ∧ w'.cell? ⟨gx, i * 4 + 2, none⟩ = some (.slice a4 pi.length c4) ∧ w'.cell? ⟨gx, i * 4 + 3, none⟩ = some (.slice b4 pt.length d4) ∧ w'.cell? ⟨w.heap.size, 3, none⟩ = some (.int .i64 wd)) (by kernel_rfl) ?_
    change wpAnyH _ _ _ _ _ _ _ _ (World.drew _)
    rw [← hw5]
    clear hw5
    refine tkA 0 (.slice (some ⟨gx, 0, none⟩) ss.length cx) rfl hS5 ?_
    refine tkA 1 (.int .i64 (i : Nat)) rfl hS5 ?_
    refine tkA 2 (.pointer (some ⟨gx, i * 4, none⟩)) rfl hS5 ?_
    refine tkA 3 (.agg #[.int .i64 pw, .int .i64 prm, .slice a4 pi.length c4, .slice b4 pt.length d4]) rfl hS5 ?_
    refine held_one 4 (by kernel_rfl) (op_calls (f := 21) (args := #[.agg #[.int .i64 pw, .int .i64 prm, .slice a4 pi.length c4, .slice b4 pt.length d4]]) rfl rfl (by go_simp) (HVS.out w5 HEI5.out) ?_)
    rintro e w6 ⟨b, rfl, hb, hb6⟩
    have HNA6 := hid (HNA5.out.below' hb6)
    have HBX6 := hid (HBX5.out.below hb6)
    have HBU6 := hid (Below.row hb6 HBU5.out)
    have HST6 := hid (HST5.out.below hb6)
    have hS6 : w6.cell? ⟨gx, i * 4, none⟩ = some (.int .i64 pw) ∧ w6.cell? ⟨gx, i * 4 + 1, none⟩ = some (.int .i64 prm) ∧ w6.cell? ⟨gx, i * 4 + 2, none⟩ = some (.slice a4 pi.length c4) ∧ w6.cell? ⟨gx, i * 4 + 3, none⟩ = some (.slice b4 pt.length d4) ∧ w6.cell? ⟨w.heap.size, 3, none⟩ = some (.int .i64 wd) := by obtain ⟨s1, s2, s3, s4⟩ := HSC.out w6 HNA6.out.below; exact ⟨s1, s2, s3, s4, HNA6.out.arg.cell 3⟩
    have hz6 := HNA6.out.below.size
    clear hb6 HNA5 HBX5 HBU5 HST5 HEI5 hS5 HVS
    refine ⟨_, rfl, hS6, ?_⟩
    cases b with
    | false =>
      have HNO : Hid (¬ ValidW (newW nm now full wd room its ts (qs.map Prod.fst) (ss.map Prod.fst))) := fun h => by have := hb.2 (HVI.out h).1; cases this
      refine tkA 5 (.bool true) rfl hS6 ?_
      refine tkA 6 (.bool true) rfl hS6 ?_
      refine tkO 7 rfl hS6 ?_
      refine tkO 8 rfl hS6 ?_
      refine tkO 9 rfl hS6 ?_
      refine tkO 10 rfl hS6 ?_
      refine tkO 11 rfl hS6 ?_
      refine tkO 12 rfl hS6 ?_
      refine tkO 13 rfl hS6 ?_
      refine tkO 14 rfl hS6 ?_
      refine tkO 15 rfl hS6 ?_
      refine tkA 16 (.bool true) rfl hS6 ?_
      refine wpAnyH_done (by kernel_rfl) ?_ _
      clear hS6 hb
      go_simp
      go_upto_region 8 with fail
      have s12 := HNA6.out.res.store12 (.string ⟨#[]⟩) (.int .i64 0) (.bool false) (.int .i64 0) (.int .i64 0) (.slice none 0 0) (.slice none 0 0) (.slice none 0 0) (.slice none 0 0) (.slice none 0 0) (.slice none 0 0) (.int .i64 0)
      have ZZ := hid (HNA6.out.res.set12 (.string ⟨#[]⟩) (.int .i64 0) (.bool false) (.int .i64 0) (.int .i64 0) (.slice none 0 0) (.slice none 0 0) (.slice none 0 0) (.slice none 0 0) (.slice none 0 0) (.slice none 0 0) (.int .i64 0))
      have BB := hid (below_set12 HNA6.out.below (b := w.heap.size + 1) (by omega) (Nat.le_refl _) (.string ⟨#[]⟩) (.int .i64 0) (.bool false) (.int .i64 0) (.int .i64 0) (.slice none 0 0) (.slice none 0 0) (.slice none 0 0) (.slice none 0 0) (.slice none 0 0) (.slice none 0 0) (.int .i64 0))
      have GG := hid (grown_set12 w6 (w.heap.size + 1) (.string ⟨#[]⟩) (.int .i64 0) (.bool false) (.int .i64 0) (.int .i64 0) (.slice none 0 0) (.slice none 0 0) (.slice none 0 0) (.slice none 0 0) (.slice none 0 0) (.slice none 0 0) (.int .i64 0))
      obtain ⟨q0, k0, q1, k1, q2, k2, q3, k3, q4, k4, q5, k5, q6, k6, q7, k7, q8, k8, q9, k9, q10, k10, q11, k11⟩ := s12
      skip
      go_wp2
      rw [set12_def]
      exact bodyPost_ret (v := .agg #[.string ⟨#[]⟩, .int .i64 0, .bool false, .int .i64 0, .int .i64 0, .slice none 0 0, .slice none 0 0, .slice none 0 0, .slice none 0 0, .slice none 0 0, .slice none 0 0, .int .i64 0]) (by simp [results, Tryz.results6, go_sem, ZZ.out.cell]) rfl (NewWR.no HNO.out BB.out)
    | true =>
    have HVD := hid (hb.1 rfl)
    clear hb
    refine tkA 5 (.bool false) rfl hS6 ?_
    refine tkA 6 (.bool false) rfl hS6 ?_
    refine tkG 7 (.slice (some ⟨gx, 0, none⟩) ss.length cx) rfl hS6 ?_
    refine tkG 8 (.int .i64 (i : Nat)) rfl hS6 ?_
    refine tkG 9 (.pointer (some ⟨gx, i * 4, none⟩)) rfl hS6 ?_
    refine tkG 10 (.pointer (some ⟨gx, i * 4, none⟩)) rfl hS6 ?_
    refine tkG 11 (.int .i64 pw) rfl hS6 ?_
    refine tkG 12 (.pointer (some ⟨w.heap.size, 3, none⟩)) rfl hS6 ?_
    refine tkG 13 (.pointer (some ⟨w.heap.size, 3, none⟩)) rfl hS6 ?_
    refine tkG 14 (.int .i64 wd) rfl hS6 ?_
    by_cases hpw : pw = wd
    case neg =>
      have HNO : Hid (¬ ValidW (newW nm now full wd room its ts (qs.map Prod.fst) (ss.map Prod.fst))) := fun h => hpw (HVI.out h).2
      refine tkG 15 (.bool true) rfl hS6 ?_
      refine tkA 16 (.bool true) rfl hS6 ?_
      refine wpAnyH_done (by kernel_rfl) ?_ _
      clear hS6 hpw
      go_simp
      go_upto_region 8 with fail
      have s12 := HNA6.out.res.store12 (.string ⟨#[]⟩) (.int .i64 0) (.bool false) (.int .i64 0) (.int .i64 0) (.slice none 0 0) (.slice none 0 0) (.slice none 0 0) (.slice none 0 0) (.slice none 0 0) (.slice none 0 0) (.int .i64 0)
      have ZZ := hid (HNA6.out.res.set12 (.string ⟨#[]⟩) (.int .i64 0) (.bool false) (.int .i64 0) (.int .i64 0) (.slice none 0 0) (.slice none 0 0) (.slice none 0 0) (.slice none 0 0) (.slice none 0 0) (.slice none 0 0) (.int .i64 0))
      have BB := hid (below_set12 HNA6.out.below (b := w.heap.size + 1) (by omega) (Nat.le_refl _) (.string ⟨#[]⟩) (.int .i64 0) (.bool false) (.int .i64 0) (.int .i64 0) (.slice none 0 0) (.slice none 0 0) (.slice none 0 0) (.slice none 0 0) (.slice none 0 0) (.slice none 0 0) (.int .i64 0))
      have GG := hid (grown_set12 w6 (w.heap.size + 1) (.string ⟨#[]⟩) (.int .i64 0) (.bool false) (.int .i64 0) (.int .i64 0) (.slice none 0 0) (.slice none 0 0) (.slice none 0 0) (.slice none 0 0) (.slice none 0 0) (.slice none 0 0) (.int .i64 0))
      obtain ⟨q0, k0, q1, k1, q2, k2, q3, k3, q4, k4, q5, k5, q6, k6, q7, k7, q8, k8, q9, k9, q10, k10, q11, k11⟩ := s12
      skip
      go_wp2
      rw [set12_def]
      exact bodyPost_ret (v := .agg #[.string ⟨#[]⟩, .int .i64 0, .bool false, .int .i64 0, .int .i64 0, .slice none 0 0, .slice none 0 0, .slice none 0 0, .slice none 0 0, .slice none 0 0, .slice none 0 0, .int .i64 0]) (by simp [results, Tryz.results6, go_sem, ZZ.out.cell]) rfl (NewWR.no HNO.out BB.out)
    have HPW := hid hpw
    refine tkG 15 (.bool false) rfl hS6 ?_
    refine tkA 16 (.bool false) rfl hS6 ?_
    refine wpAnyH_done (by kernel_rfl) ?_ _
    clear hS6 hpw
    go_simp
    obtain ⟨j0, hj0, hjz0, hjz1, hjz2⟩ := info_parts Tryz.infoBool2
    have y8 : w6.cell? ⟨ob, 8, none⟩ = some (.slice au i cu) := HBX6.out.cell 8
    have hA6 := (Below.refl w6.heap.size w6).alloc (Nat.le_refl _) (.cells #[.bool true] 4)
    have X7 := HBX6.out.alloc (.cells #[.bool true] 4)
    have R7 := HBU6.out.alloc (.cells #[.bool true] 4)
    have HR7 := hid R7
    have HX7 := hid X7
    have HN7 := hid (HNA6.out.below' hA6)
    have HS7 := hid (HST6.out.below hA6)
    clear hA6 X7
    go_upto_region 10 with (at_builtin; refine wpList_append_own _ rfl _ _ 38 rfl (w.heap.size + 2) 4 j0 (.bool false) 1 1 Tryz.underlying38 hj0 hjz0 hjz1 hjz2 rfl (by decide) (.slice au i cu) i ((List.replicate i true).map Value.bool) rfl R7 ⟨_, 0, none⟩ 1 1 [.bool true] rfl rfl (cell_one_new _ _ _) (by simp [Value.oneCell']) (by unfold maxLen; omega) (by omega) (by rw [World.size_alloc]; have := HNA6.out.res.lt; omega) ?_; intro v8 w8 ho8 hg8 _; obtain ⟨a8, c8, rfl⟩ := row_any ho8; have X8 := HX7.out.kept hg8 (fun e => row_off_blk HR7.out HX7.out (by decide) e.symm); have z8 : w8.cell? ⟨ob, 8, none⟩ = some (.slice au i cu) := X8.cell 8; have f8 := X8.fz 8)
    have G9 := grownBy_setCellAt w8 ob 8 (.slice a8 (i + 1) c8)
    have N8 := HN7.out.grow hg8 (fun b e => ⟨(HR7.out.lt b e).1, HN7.out.noRow HR7.out (by decide) (by decide) (by decide) e⟩)
    have N9 := N8.grow G9 (fun b e => ⟨by cases e; exact hob, by cases e; exact N8.noBlk X8 (by decide) (by decide) (by decide)⟩)
    have S9 := (HS7.out.stays HR7.out (by decide) (by decide) (by decide) hg8).besides X8 (by decide) (by decide) (by decide) G9
    have U9 := row_besides ho8 X8 (by decide) G9
    have X9 : Blk (w8.setCell ⟨ob, 8, none⟩ (.slice a8 (i + 1) c8)) ob 42 #[.string nm, .int .i64 now, .bool full, .int .i64 wd, .int .i64 room, .slice a2 its.length c2, .slice b2 ts.length d2, .slice e2 qs2.length f2, .slice a8 (i + 1) c8, .slice at' os.length ct, .slice none 0 0, .int .i64 0] := X8.set 8 (.slice a8 (i + 1) c8)
    obtain ⟨w9, hw9⟩ : ∃ x, x = w8.setCell ⟨ob, 8, none⟩ (.slice a8 (i + 1) c8) := ⟨_, rfl⟩
    rw [← hw9] at N9 S9 U9 X9 ⊢
    obtain ⟨wx, hwx⟩ : ∃ x, x = w9.drew := ⟨_, rfl⟩
    have hbx : Below w9.heap.size w9 wx := by rw [hwx]; exact below_drewN (Below.refl _ _) 1
    have HNX := hid (N9.below' hbx)
    have HSX := hid (S9.below hbx)
    have HUX := hid (Below.row hbx U9)
    have HXX := hid (X9.below hbx)
    have HEX := hid (HEI.out.below HNX.out.below)
    have hSx : wx.cell? ⟨ob, 9, none⟩ = some (.slice at' os.length ct) ∧ wx.cell? ⟨gx, i * 4, none⟩ = some (.int .i64 pw) ∧ wx.cell? ⟨gx, i * 4 + 1, none⟩ = some (.int .i64 prm) ∧ wx.cell? ⟨gx, i * 4 + 2, none⟩ = some (.slice a4 pi.length c4) ∧ wx.cell? ⟨gx, i * 4 + 3, none⟩ = some (.slice b4 pt.length d4) := ⟨HXX.out.cell 9, HSC.out wx HNX.out.below⟩
    clear hw9 hbx N8 N9 S9 U9 X8 X9 G9 ho8 hg8 z8 f8 y8 HX7 HR7 HN7 HS7 R7 HBX6 HBU6 HST6 HNA6
    refine wp_region_last 10 (S := fun w' => w'.cell? ⟨ob, 9, none⟩ = some (.slice at' os.length ct) ∧ w'.cell? ⟨gx, i * 4, none⟩ = some (.int .i64 pw) ∧ w'.cell? ⟨gx, i * 4 + 1, none⟩ = some (.int .i64 prm) ∧ w'.cell? ⟨gx, i * 4 + 2, none⟩ = some (.slice a4 pi.length c4) ∧ w'.cell? ⟨gx, i * 4 + 3, none⟩ = some (.slice b4 pt.length d4)) (by kernel_rfl) ?_
    change wpAnyC _ _ _ _ _ _ _ _ _ (World.drew _)
    rw [← hwx]
    clear hwx
    refine tkL 0 (.pointer (some ⟨ob, 9, none⟩)) rfl hSx ?_
    refine tkL 1 (.slice at' os.length ct) rfl hSx ?_
    refine tkL 2 (.slice (some ⟨gx, 0, none⟩) ss.length cx) rfl hSx ?_
    refine tkL 3 (.int .i64 (i : Nat)) rfl hSx ?_
    refine tkL 4 (.pointer (some ⟨gx, i * 4, none⟩)) rfl hSx ?_
    refine tkL 5 (.agg #[.int .i64 pw, .int .i64 prm, .slice a4 pi.length c4, .slice b4 pt.length d4]) rfl hSx ?_
    refine last_one 6 (by kernel_rfl) (op_calls (f := 22) (args := #[.agg #[.int .i64 pw, .int .i64 prm, .slice a4 pi.length c4, .slice b4 pt.length d4]]) rfl rfl (by go_simp) (HLC.out wx HEX.out) ?_)
    rintro e w11 ⟨vi', vp', rfl, oi, op, hap, hb11⟩
    obtain ⟨a11, c11, rfl⟩ := row_any oi
    obtain ⟨b11, d11, rfl⟩ := row_any op
    have N11 := HNX.out.below' hb11
    have S11 := HSX.out.below hb11
    have U11 := Below.row hb11 HUX.out
    have X11 := HXX.out.below hb11
    have hzx := HNX.out.res.lt
    have so : StoreOwn w11 (w.heap.size + 2) (.slice a11 pi.length c11) (.slice b11 pt.length d11) pi pt := ⟨ownsRow_base2 oi (by omega), ownsRow_base2 op (by omega), hap⟩
    have hS11 : w11.cell? ⟨ob, 9, none⟩ = some (.slice at' os.length ct) ∧ w11.cell? ⟨gx, i * 4, none⟩ = some (.int .i64 pw) ∧ w11.cell? ⟨gx, i * 4 + 1, none⟩ = some (.int .i64 prm) ∧ w11.cell? ⟨gx, i * 4 + 2, none⟩ = some (.slice a4 pi.length c4) ∧ w11.cell? ⟨gx, i * 4 + 3, none⟩ = some (.slice b4 pt.length d4) := ⟨X11.cell 9, HSC.out w11 N11.below⟩
    have hfi : ∀ j, j < os.length → ∀ g, (sti os j).ownBlock = some g → (Value.slice a11 pi.length c11).ownBlock ≠ some g := fun j hj g e1 e2 => by have h1 := ((HSX.out.each j hj).items.lt g e1).2; have h2 := (oi.lt g e2).1; omega
    have hfp : ∀ j, j < os.length → ∀ g, (stq os j).ownBlock = some g → (Value.slice b11 pt.length d11).ownBlock ≠ some g := fun j hj g e1 e2 => by have h1 := ((HSX.out.each j hj).pins.lt g e1).2; have h2 := (op.lt g e2).1; omega
    refine ⟨_, rfl, fun _ => hS11, ?_⟩
    have hA12 := (Below.refl w11.heap.size w11).alloc (Nat.le_refl _) (.cells #[.int .i64 pw, .int .i64 prm, .slice a11 pi.length c11, .slice b11 pt.length d11] 34)
    have N12 := N11.below' hA12
    have S12 := S11.below hA12
    have U12 := Below.row hA12 U11
    have X12 := X11.below hA12
    have so12 := so.below hA12
    have E12 := Blk.new w11 34 #[.int .i64 pw, .int .i64 prm, .slice a11 pi.length c11, .slice b11 pt.length d11]
    have hS12 : (w11.alloc (.cells #[.int .i64 pw, .int .i64 prm, .slice a11 pi.length c11, .slice b11 pt.length d11] 34)).cell? ⟨ob, 9, none⟩ = some (.slice at' os.length ct) ∧ (w11.alloc (.cells #[.int .i64 pw, .int .i64 prm, .slice a11 pi.length c11, .slice b11 pt.length d11] 34)).cell? ⟨gx, i * 4, none⟩ = some (.int .i64 pw) ∧ (w11.alloc (.cells #[.int .i64 pw, .int .i64 prm, .slice a11 pi.length c11, .slice b11 pt.length d11] 34)).cell? ⟨gx, i * 4 + 1, none⟩ = some (.int .i64 prm) ∧ (w11.alloc (.cells #[.int .i64 pw, .int .i64 prm, .slice a11 pi.length c11, .slice b11 pt.length d11] 34)).cell? ⟨gx, i * 4 + 2, none⟩ = some (.slice a4 pi.length c4) ∧ (w11.alloc (.cells #[.int .i64 pw, .int .i64 prm, .slice a11 pi.length c11, .slice b11 pt.length d11] 34)).cell? ⟨gx, i * 4 + 3, none⟩ = some (.slice b4 pt.length d4) := ⟨X12.cell 9, HSC.out _ N12.below⟩
    refine last_one 7 (by kernel_rfl) (op_value (v := .slice (some ⟨w11.heap.size, 0, none⟩) 1 1) (w' := w11.alloc (.cells #[.int .i64 pw, .int .i64 prm, .slice a11 pi.length c11, .slice b11 pt.length d11] 34)) rfl rfl (by go_simp) ⟨fun _ => hS12, ?_⟩)
    generalize w11.alloc (.cells #[.int .i64 pw, .int .i64 prm, .slice a11 pi.length c11, .slice b11 pt.length d11] 34) = w12 at *
    generalize w11.heap.size = eb at *
    clear hA12 N11 S11 U11 X11 hS11 hb11 oi op hap so hSx
    have hz12 := N12.res.lt
    refine last_one 8 (by kernel_rfl) (op_wp rfl rfl (wp_append_store (.tmp 52) (.tmp 58) rfl (w.heap.size + 2) (.slice at' os.length ct) os.length (cellsT os) (by go_simp) S12.row eb pw prm (.slice a11 pi.length c11) (.slice b11 pt.length d11) (by go_simp) E12 rfl rfl (by omega) (by omega) ?_))
    intro v13 w13 ho13 hg13
    obtain ⟨o', s13, hl13, hm13⟩ := HSN.out w13 v13 _ _ w12 S12 hg13 ho13 so12 hfi hfp
    obtain ⟨a13, c13, rfl⟩ := row_any s13.row
    have X13 := X12.kept hg13 (fun e => row_off_blk S12.row X12 (by decide) e.symm)
    have N13 := N12.grow hg13 (fun b e => ⟨(S12.row.lt b e).1, N12.noRow S12.row (by decide) (by decide) (by decide) e⟩)
    have U13 := row_stays U12 S12.row (by decide) hg13
    have hS13 : w13.cell? ⟨ob, 9, none⟩ = some (.slice at' os.length ct) ∧ w13.cell? ⟨gx, i * 4, none⟩ = some (.int .i64 pw) ∧ w13.cell? ⟨gx, i * 4 + 1, none⟩ = some (.int .i64 prm) ∧ w13.cell? ⟨gx, i * 4 + 2, none⟩ = some (.slice a4 pi.length c4) ∧ w13.cell? ⟨gx, i * 4 + 3, none⟩ = some (.slice b4 pt.length d4) := ⟨X13.cell 9, HSC.out w13 N13.below⟩
    refine ⟨fun _ => hS13, ?_⟩
    refine tkL 9 (.pointer (some ⟨ob, 9, none⟩)) rfl hS13 ?_
    have x13 : w13.cell? ⟨ob, 9, none⟩ = some (.slice at' os.length ct) := X13.cell 9
    have f13 := X13.fz 9
    have G14 := grownBy_setCellAt w13 ob 9 (.slice a13 o'.length c13)
    have HN14 := hid (N13.grow G14 (fun b e => ⟨by cases e; exact hob, by cases e; exact N13.noBlk X13 (by decide) (by decide) (by decide)⟩))
    have HS14 := hid (s13.besides X13 (by decide) (by decide) (by decide) G14)
    have HU14 : Hid ((w13.setCell ⟨ob, 9, none⟩ (.slice a13 o'.length c13)).ownsRow (w.heap.size + 2) 4 1 (.slice a8 (i + 1) c8) (i + 1) ((List.replicate (i + 1) true).map Value.bool)) := hid (by have := row_besides U13 X13 (by decide) G14; rw [List.replicate_succ', List.map_append]; exact this)
    have HX14 : Hid (Blk (w13.setCell ⟨ob, 9, none⟩ (.slice a13 o'.length c13)) ob 42 #[.string nm, .int .i64 now, .bool full, .int .i64 wd, .int .i64 room, .slice a2 its.length c2, .slice b2 ts.length d2, .slice e2 qs2.length f2, .slice a8 (i + 1) c8, .slice a13 o'.length c13, .slice none 0 0, .int .i64 0]) := hid (X13.set 9 (.slice a13 o'.length c13))
    have HM13 := hid hm13
    have HKK := hid (HOK.out ⟨HVD.out, HPW.out⟩)
    clear hS12 N12 S12 U12 X12 so12 E12 hfi hfp ho13 hg13 s13 hl13 hm13 N13 U13 X13 G14
    refine last_one 10 (by kernel_rfl) (op_skip (w' := w13.setCell ⟨ob, 9, none⟩ (.slice a13 o'.length c13)) rfl rfl (by go_simp) ⟨fun h => absurd rfl h, last_done (by kernel_rfl) ?_ _⟩)
    clear hS13 x13 f13
    go_simp
    go_wp2
    exact ⟨⟨i + 1, _, _, o', by omega, by go_num, HN14.out, HX14.out, HU14.out, HS14.out, HM13.out, HKK.out⟩, by simp [intOf]; omega⟩
end Go.Proofs.YtlnkhbnbcmllaaaGreat
