/- impl.Unpin. -/
import Derived.Test.YtmcipciimnncmaaShelfUnpin
namespace Go.Proofs.Ytmcipciimnncmaa
open Go.RowKit
/-- What Unpin answers. -/
def UnpinR (wd room : Int) (its : Itms) (ts : List ByteArray) (name : ByteArray) (wd' room' : Int) (its' : Itms) (ts' : List ByteArray) (code : Int) : Prop :=
  (¬ (ValidSt wd room its ts ∧ (name.size : Int) = wd) ∧ wd' = 0 ∧ room' = 0 ∧ its' = [] ∧ ts' = [] ∧ code = 1) ∨
  ((ValidSt wd room its ts ∧ (name.size : Int) = wd) ∧ (∀ i, i < ts.length → tv ts i ≠ name) ∧ wd' = 0 ∧ room' = 0 ∧ its' = [] ∧ ts' = [] ∧ code = 2) ∨
  ((ValidSt wd room its ts ∧ (name.size : Int) = wd) ∧ wd' = wd ∧ room' = room ∧ its' = its ∧ code = 0 ∧ ∃ i, i < ts.length ∧ tv ts i = name ∧ ts' = ts.eraseIdx i)
set_option maxRecDepth 100000 in
set_option maxHeartbeats 1000000 in
theorem answer_no (sb : Nat) (code : Int) (w : World) (h : ¬ code = 0) :
    Calls Try.prog 38 #[.pointer (some ⟨sb, 0, none⟩), .int .i64 code] w fun e w' => e = .returned (.tuple #[.agg #[.int .i64 0, .int .i64 0, .slice none 0 0, .slice none 0 0], .int .i64 code]) ∧ Below w.heap.size w w' := by
  have hc : (code == 0) = false := by simpa using h
  go_enter Try.func38, Try.ntmps38
  go_wp2
  exact bodyPost_ret (v := .tuple #[.agg #[.int .i64 0, .int .i64 0, .slice none 0 0, .slice none 0 0], .int .i64 code]) (by simp [results, Try.results38, go_sem]) rfl ⟨rfl, (Below.refl _ _).alloc (Nat.le_refl _) _⟩
set_option maxRecDepth 100000 in
set_option maxHeartbeats 1000000 in
theorem answer_yes (sb mb m : Nat) (vc : Value) (wd room tot : Int) (its : Itms) (ts : List ByteArray) (D : DataW Unit) (w : World) (hbox : Blk w sb 70 #[.int .i64 wd, .int .i64 room, .int .i64 tot, .map (some mb), vc]) (hmap : w.ownsMap Try.prog 9 itemElem mb m D) (hD : Maps.Tidy D)
    (hasc : (sumsL wd its).Pairwise (· < ·)) (hhas : ∀ x, x ∈ sumsL wd its ↔ Maps.has D (.string x) = true) (hat : ∀ i, i < its.length → ∀ z, D.atKey (.string (sumX wd (itx its i)).data.toList) z = datI (itx its i, itu its i))
    (hrow : Reads w vc ts) (hl : its.length ≤ 1048576) (hts : ts.length ≤ 1048576) (hsp : ∀ i, (tv ts i).size ≤ 1048576) (hsi : ∀ i, (itx its i).size ≤ 1048576) :
    Calls Try.prog 38 #[.pointer (some ⟨sb, 0, none⟩), .int .i64 0] w fun e w' => ∃ vi vp, e = .returned (.tuple #[.agg #[.int .i64 wd, .int .i64 room, vi, vp], .int .i64 0]) ∧ StoreOwn w' (w.heap.size + 1) vi vp its ts ∧ Below w.heap.size w w' := by
  have hA := (Below.refl w.heap.size w).alloc (Nat.le_refl _) (.cells #[.int .i64 0, .int .i64 0, .slice none 0 0, .slice none 0 0] 30)
  have HN := hid (Blk.new w 30 #[.int .i64 0, .int .i64 0, .slice none 0 0, .slice none 0 0])
  have HST := hid (shelfStore_any keysOK sb mb m vc wd room tot its ts D _ (hbox.alloc _) (hmap.alloc _) hD hasc hhas hat (hrow.below hA) hl hts hsp hsi)
  have HA := hid hA
  clear hA hbox hmap hrow hhas hat hsp hsi
  go_enter Try.func38, Try.ntmps38
  go_wp2_with fail
  refine HST.out.mono ?_
  rintro e w1 ⟨v1, p1, rfl, oi, op, hap, hb1⟩
  rw [World.size_alloc] at oi op
  obtain ⟨a8, c8, rfl⟩ := row_any oi
  obtain ⟨b8, d8, rfl⟩ := row_any op
  have N1 := HN.out.below hb1
  have B1 := HA.out.trans (hb1.mono (by simp))
  have s9 := N1.store4 (.int .i64 wd) (.int .i64 room) (.slice a8 its.length c8) (.slice b8 ts.length d8)
  have s0 := s9.a0; have s1 := s9.a1; have s2 := s9.a2; have s3 := s9.a3
  have k0 := s9.f0; have k1 := s9.f1; have k2 := s9.f2; have k3 := s9.f3
  have Z := hid s9.z
  have BB := hid ((((B1.setCell (p := ⟨w.heap.size, 0, none⟩) (Nat.le_refl _) (.int .i64 wd)).setCell (p := ⟨w.heap.size, 1, none⟩) (Nat.le_refl _) (.int .i64 room)).setCell (p := ⟨w.heap.size, 2, none⟩) (Nat.le_refl _) (.slice a8 its.length c8)).setCell (p := ⟨w.heap.size, 3, none⟩) (Nat.le_refl _) (.slice b8 ts.length d8))
  clear s9
  have SO : StoreOwn w1 (w.heap.size + 1 + 1) (.slice a8 its.length c8) (.slice b8 ts.length d8) its ts := ⟨oi, op, hap⟩
  have GG := fun (x : World) (j : Nat) (y : Value) => grownBy_setCellAt x w.heap.size j y
  have SO4 := hid ((((SO.kept (GG _ 0 (.int .i64 wd)) (by omega)).kept (GG _ 1 (.int .i64 room)) (by omega)).kept (GG _ 2 (.slice a8 its.length c8)) (by omega)).kept (GG _ 3 (.slice b8 ts.length d8)) (by omega))
  clear SO GG oi op hap hb1 N1 B1
  go_wp2
  refine bodyPost_ret (v := .tuple #[.agg #[.int .i64 wd, .int .i64 room, .slice a8 its.length c8, .slice b8 ts.length d8], .int .i64 0]) (by simp [results, Try.results38, go_sem, Z.out.cell]) rfl ⟨_, _, rfl, SO4.out.base (by omega), BB.out⟩
set_option maxRecDepth 100000 in
set_option maxHeartbeats 2000000 in
theorem implUnpin_any (wd room : Int) (vi vp : Value) (its : Itms) (ts : List ByteArray) (name : ByteArray) (w : World) (hi : RdI w vi its) (hp : Reads w vp ts) (hli : its.length ≤ 1048576) (hlp : ts.length ≤ 1048576) (hsi : ∀ i, (itx its i).size ≤ 1048576) (hsp : ∀ i, (tv ts i).size ≤ 1048576) :
    Calls Try.prog 14 #[.agg #[.int .i64 wd, .int .i64 room, vi, vp], .string name] w fun e w' => ∃ wd' room' its' ts' code vi' vp', e = .returned (.tuple #[.agg #[.int .i64 wd', .int .i64 room', vi', vp'], .int .i64 code]) ∧ UnpinR wd room its ts name wd' room' its' ts' code ∧ StoreOwn w' (w.heap.size + 2) vi' vp' its' ts' ∧ Below w.heap.size w w' := by
  obtain ⟨ai, ci, rfl, hci⟩ := hi
  obtain ⟨ap, cp, rfl, _⟩ := hp.form
  have hi : RdI w (.slice ai its.length ci) its := ⟨ai, ci, rfl, hci⟩
  have hA := ((Below.refl w.heap.size w).alloc (Nat.le_refl _) (.cells #[.int .i64 wd, .int .i64 room, .slice ai its.length ci, .slice ap ts.length cp] 30)).alloc (by simp) (.cells #[.int .i64 0, .int .i64 0, .slice none 0 0, .slice none 0 0] 30)
  have hN7 := Blk.new (w.alloc (.cells #[.int .i64 wd, .int .i64 room, .slice ai its.length ci, .slice ap ts.length cp] 30)) 30 #[.int .i64 0, .int .i64 0, .slice none 0 0, .slice none 0 0]
  rw [World.size_alloc] at hN7
  have HN7 := hid hN7
  have HO := hid (openStore_any wd room _ _ its ts _ (hi.below hA) (hp.below hA) hli hlp hsi hsp)
  have HA := hid hA
  have HSI := hid hsi
  have HSP := hid hsp
  clear hi hp hA hN7 hsi hsp hci
  go_enter Try.func14, Try.ntmps14
  go_wp2_with fail
  refine HO.out.mono ?_
  rintro e w1 (⟨hn, rfl, hb1⟩ | ⟨hv, sb, mb, vc, rfl, hsh, hb1⟩)
  · have N7 := HN7.out.below hb1
    have B1 := HA.out.trans (hb1.mono (by simp; omega))
    have HF : Hid (UnpinR wd room its ts name 0 0 [] [] 1) := .inl ⟨fun h => hn h.1, rfl, rfl, rfl, rfl, rfl⟩
    have s9 := N7.store4 (.int .i64 0) (.int .i64 0) (.slice none 0 0) (.slice none 0 0)
    have s0 := s9.a0; have s1 := s9.a1; have s2 := s9.a2; have s3 := s9.a3
    have k0 := s9.f0; have k1 := s9.f1; have k2 := s9.f2; have k3 := s9.f3
    have Z := hid s9.z
    have BB := hid ((((B1.setCell (p := ⟨w.heap.size + 1, 0, none⟩) (by simp) (.int .i64 0)).setCell (p := ⟨w.heap.size + 1, 1, none⟩) (by simp) (.int .i64 0)).setCell (p := ⟨w.heap.size + 1, 2, none⟩) (by simp) (.slice none 0 0)).setCell (p := ⟨w.heap.size + 1, 3, none⟩) (by simp) (.slice none 0 0))
    clear s9
    clear N7 B1 hn hb1
    go_wp2
    refine bodyPost_ret (v := .tuple #[.agg #[.int .i64 0, .int .i64 0, .slice none 0 0, .slice none 0 0], .int .i64 1]) (by simp [results, Try.results14, go_sem, Z.out.cell]) rfl ⟨0, 0, [], [], 1, _, _, rfl, HF.out, StoreOwn.none _ _, BB.out⟩
  have N7 := HN7.out.below hb1
  have B1 := HA.out.trans (hb1.mono (by simp; omega))
  have hsbl := hsh.hs
  have hmbl := hsh.hm
  simp only [World.size_alloc] at hsbl hmbl
  have hrl : ∀ g, vc.ownBlock = some g → w.heap.size + 1 + 1 ≤ g := fun g e => by have := (hsh.row.lt g e).1; simpa using this
  have HUP := hid (unpin_any sb mb its.length _ (mapI wd its its.length) wd room _ vc ts name w1 hsh.box hsh.map hsh.row hsh.ne hsh.ns hsh.nm (okSums_asc hv.sums) hlp)
  have HVAL := hid hv
  have hs7 := N7.lt
  have hslt := hsh.box.lt
  have hn7 := hid N7
  have hb7 := hid B1
  have HRL := hid hrl
  clear hsh hb1 N7 B1 hrl hv
  go_wp2_with fail
  refine HUP.out.mono ?_
  rintro e w2 (⟨rfl, hsz, hb2⟩ | ⟨rfl, hsz, hno, hb2⟩ | ⟨rfl, hsz, i, vc', hil, hnm, hbox, hrd, hmap, hgr, hbel⟩)
  · have HF : Hid (UnpinR wd room its ts name 0 0 [] [] 1) := .inl ⟨fun h => hsz h.2, rfl, rfl, rfl, rfl, rfl⟩
    have N2 := hn7.out.below hb2
    have B2 := hb7.out.trans (hb2.mono hb7.out.size)
    go_wp2_with fail
    refine (answer_no sb 1 _ (by decide)).mono ?_
    rintro e w3 ⟨rfl, hb3⟩
    have N3 := N2.below hb3
    have B3 := B2.trans (hb3.mono B2.size)
    have s9 := N3.store4 (.int .i64 0) (.int .i64 0) (.slice none 0 0) (.slice none 0 0)
    have s0 := s9.a0; have s1 := s9.a1; have s2 := s9.a2; have s3 := s9.a3
    have k0 := s9.f0; have k1 := s9.f1; have k2 := s9.f2; have k3 := s9.f3
    have Z := hid s9.z
    have BB := hid ((((B3.setCell (p := ⟨w.heap.size + 1, 0, none⟩) (by simp) (.int .i64 0)).setCell (p := ⟨w.heap.size + 1, 1, none⟩) (by simp) (.int .i64 0)).setCell (p := ⟨w.heap.size + 1, 2, none⟩) (by simp) (.slice none 0 0)).setCell (p := ⟨w.heap.size + 1, 3, none⟩) (by simp) (.slice none 0 0))
    clear s9
    clear N2 B2 N3 B3 hb2 hb3 hsz
    go_wp2
    refine bodyPost_ret (v := .tuple #[.agg #[.int .i64 0, .int .i64 0, .slice none 0 0, .slice none 0 0], .int .i64 1]) (by simp [results, Try.results14, go_sem, Z.out.cell]) rfl ⟨0, 0, [], [], 1, _, _, rfl, HF.out, StoreOwn.none _ _, BB.out⟩
  · have HF : Hid (UnpinR wd room its ts name 0 0 [] [] 2) := .inr (.inl ⟨⟨HVAL.out, hsz⟩, hno, rfl, rfl, rfl, rfl, rfl⟩)
    have N2 := hn7.out.below hb2
    have B2 := hb7.out.trans (hb2.mono hb7.out.size)
    go_wp2_with fail
    refine (answer_no sb 2 _ (by decide)).mono ?_
    rintro e w3 ⟨rfl, hb3⟩
    have N3 := N2.below hb3
    have B3 := B2.trans (hb3.mono B2.size)
    have s9 := N3.store4 (.int .i64 0) (.int .i64 0) (.slice none 0 0) (.slice none 0 0)
    have s0 := s9.a0; have s1 := s9.a1; have s2 := s9.a2; have s3 := s9.a3
    have k0 := s9.f0; have k1 := s9.f1; have k2 := s9.f2; have k3 := s9.f3
    have Z := hid s9.z
    have BB := hid ((((B3.setCell (p := ⟨w.heap.size + 1, 0, none⟩) (by simp) (.int .i64 0)).setCell (p := ⟨w.heap.size + 1, 1, none⟩) (by simp) (.int .i64 0)).setCell (p := ⟨w.heap.size + 1, 2, none⟩) (by simp) (.slice none 0 0)).setCell (p := ⟨w.heap.size + 1, 3, none⟩) (by simp) (.slice none 0 0))
    clear s9
    clear N2 B2 N3 B3 hb2 hb3 hsz hno
    go_wp2
    refine bodyPost_ret (v := .tuple #[.agg #[.int .i64 0, .int .i64 0, .slice none 0 0, .slice none 0 0], .int .i64 2]) (by simp [results, Try.results14, go_sem, Z.out.cell]) rfl ⟨0, 0, [], [], 2, _, _, rfl, HF.out, StoreOwn.none _ _, BB.out⟩
  · have hasc := sums_asc HVAL.out.each
    have hhas := fun x => (mapI_has wd its x its.length (Nat.le_refl _))
    rw [List.take_of_length_le (by rw [sumsL_len]; exact Nat.le_refl _)] at hhas
    have bel2 := hbel (w.heap.size + 2) (by omega) (fun g e => HRL.out g e) (by omega)
    have N2 := hn7.out.belowAt bel2 (by omega)
    have B2 := hb7.out.trans (bel2.mono (by omega))
    have hle : (ts.eraseIdx i).length = ts.length - 1 := by rw [List.length_eraseIdx, if_pos hil]
    have HAN := hid (answer_yes sb mb its.length vc' wd room _ its (ts.eraseIdx i) (mapI wd its its.length) w2 hbox hmap (mapI_tidy wd its its.length) hasc (fun x => (hhas x).symm) (fun j hj z => mapI_at wd its hasc z its.length (Nat.le_refl _) j hj) hrd hli (by omega) (fun j => by
      by_cases hj : j < (ts.eraseIdx i).length
      · have hm : tv (ts.eraseIdx i) j ∈ ts := List.mem_of_mem_eraseIdx (l := ts) (i := i) (by simp [tv, hj])
        obtain ⟨k, hk, he⟩ := List.getElem_of_mem hm
        have := HSP.out k
        rw [show tv ts k = tv (ts.eraseIdx i) j by rw [← he]; simp [tv, hk]] at this
        exact this
      · have : tv (ts.eraseIdx i) j = ByteArray.empty := by simp only [tv]; rw [List.getD_eq_getElem?_getD, List.getElem?_eq_none (by omega)]; rfl
        rw [this]; simp) HSI.out)
    have HF : Hid (UnpinR wd room its ts name wd room its (ts.eraseIdx i) 0) := .inr (.inr ⟨⟨HVAL.out, hsz⟩, rfl, rfl, rfl, rfl, i, hil, hnm, rfl⟩)
    have hn2 := hid N2
    have hb2 := hid B2
    have hs2 := N2.lt
    clear hbox hrd hmap hgr hbel bel2 N2 B2 hhas hasc hle
    generalize ts.eraseIdx i = ts9 at *
    go_wp2_with fail
    refine HAN.out.mono ?_
    rintro e w3 ⟨v3, p3, rfl, so3, hb3⟩
    obtain ⟨a8, c8, rfl⟩ := row_any so3.items
    obtain ⟨b8, d8, rfl⟩ := row_any so3.pins
    have N3 := hn2.out.below hb3
    have B3 := hb2.out.trans (hb3.mono hb2.out.size)
    have s9 := N3.store4 (.int .i64 wd) (.int .i64 room) (.slice a8 its.length c8) (.slice b8 ts9.length d8)
    have s0 := s9.a0; have s1 := s9.a1; have s2 := s9.a2; have s3 := s9.a3
    have k0 := s9.f0; have k1 := s9.f1; have k2 := s9.f2; have k3 := s9.f3
    have Z := hid s9.z
    have BB := hid ((((B3.setCell (p := ⟨w.heap.size + 1, 0, none⟩) (by simp) (.int .i64 wd)).setCell (p := ⟨w.heap.size + 1, 1, none⟩) (by simp) (.int .i64 room)).setCell (p := ⟨w.heap.size + 1, 2, none⟩) (by simp) (.slice a8 its.length c8)).setCell (p := ⟨w.heap.size + 1, 3, none⟩) (by simp) (.slice b8 ts9.length d8))
    clear s9
    have GG := fun (x : World) (j : Nat) (y : Value) => grownBy_setCellAt x (w.heap.size + 1) j y
    have SO4 := hid ((((so3.kept (GG _ 0 (.int .i64 wd)) (by omega)).kept (GG _ 1 (.int .i64 room)) (by omega)).kept (GG _ 2 (.slice a8 its.length c8)) (by omega)).kept (GG _ 3 (.slice b8 ts9.length d8)) (by omega))
    clear GG so3 hb3 N3 B3
    go_wp2
    refine bodyPost_ret (v := .tuple #[.agg #[.int .i64 wd, .int .i64 room, .slice a8 its.length c8, .slice b8 ts9.length d8], .int .i64 0]) (by simp [results, Try.results14, go_sem, Z.out.cell]) rfl ⟨wd, room, its, ts9, 0, _, _, rfl, HF.out, SO4.out.base (by omega), BB.out⟩
end Go.Proofs.Ytmcipciimnncmaa
