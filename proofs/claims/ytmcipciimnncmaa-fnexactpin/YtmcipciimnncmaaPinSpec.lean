/- spec.Pin. -/
import Derived.Test.YtmcipciimnncmaaAddSpec
import Derived.Test.YtmcipciimnncmaaRowRd
namespace Go.Proofs.Ytmcipciimnncmaa
open Go.RowKit
/-- A text put into an ascending list. -/
def addT (s : ByteArray) (ts : List ByteArray) : List ByteArray := if cutN s ts < ts.length ∧ tv ts (cutN s ts) = s then ts else ts.take (cutN s ts) ++ s :: ts.drop (cutN s ts)
/-- What Pin answers. -/
def PinR (wd room : Int) (its : Itms) (ts : List ByteArray) (name : ByteArray) (wd' room' : Int) (its' : Itms) (ts' : List ByteArray) (code : Int) : Prop :=
  (¬ (ValidSt wd room its ts ∧ (name.size : Int) = wd) ∧ wd' = 0 ∧ room' = 0 ∧ its' = [] ∧ ts' = [] ∧ code = 1) ∨
  ((ValidSt wd room its ts ∧ (name.size : Int) = wd) ∧ 10 < (addT name ts).length ∧ wd' = 0 ∧ room' = 0 ∧ its' = [] ∧ ts' = [] ∧ code = 2) ∨
  ((ValidSt wd room its ts ∧ (name.size : Int) = wd) ∧ (addT name ts).length ≤ 10 ∧ wd' = wd ∧ room' = room ∧ its' = its ∧ ts' = addT name ts ∧ code = 0)
set_option maxRecDepth 100000 in
set_option maxHeartbeats 2000000 in
theorem specPin_row (wd room : Int) (vi vp : Value) (its : Itms) (ts : List ByteArray) (name : ByteArray) (w : World) (b1 b2 : Nat) (hi : w.ownsRow b1 52 2 vi its.length (cellsI its)) (hp : w.ownsRow b2 9 1 vp ts.length (ts.map Value.string)) (hli : its.length ≤ 1048576) (hlp : ts.length ≤ 1048576) (hsi : ∀ i, (itx its i).size ≤ 1048576) (hsp : ∀ i, (tv ts i).size ≤ 1048576) :
    Calls Try.prog 19 #[.agg #[.int .i64 wd, .int .i64 room, vi, vp], .string name] w fun e w' => ∃ wd' room' its' ts' code vi' vp', e = .returned (.tuple #[.agg #[.int .i64 wd', .int .i64 room', vi', vp'], .int .i64 code]) ∧ PinR wd room its ts name wd' room' its' ts' code ∧ StoreOwn w' (w.heap.size + 2) vi' vp' its' ts' ∧ Below w.heap.size w w' := by
  obtain ⟨ai, ci, hvi⟩ : ∃ ai ci, vi = .slice ai its.length ci := row_any hi
  subst hvi
  obtain ⟨ap, cp, rfl, _⟩ := row_form hp
  have hA := ((Below.refl w.heap.size w).alloc (Nat.le_refl _) (.cells #[.int .i64 wd, .int .i64 room, .slice ai its.length ci, .slice ap ts.length cp] 30)).alloc (by simp) (.cells #[.int .i64 0, .int .i64 0, .slice none 0 0, .slice none 0 0] 30)
  have HN := hid ((Blk.new w 30 #[.int .i64 wd, .int .i64 room, .slice ai its.length ci, .slice ap ts.length cp]).alloc (.cells #[.int .i64 0, .int .i64 0, .slice none 0 0, .slice none 0 0] 30))
  have hN7 := Blk.new (w.alloc (.cells #[.int .i64 wd, .int .i64 room, .slice ai its.length ci, .slice ap ts.length cp] 30)) 30 #[.int .i64 0, .int .i64 0, .slice none 0 0, .slice none 0 0]
  rw [World.size_alloc] at hN7
  have HN7 := hid hN7
  have HV := hid (specValidStore_any wd room _ _ its ts _ (rdi_row (Below.row hA hi)) (Reads.of_row (Below.row hA hp)) hli hlp hsi hsp)
  have HI := hid hi
  have HP := hid hp
  have HPR := hid (Reads.of_row hp).form
  have HA := hid hA
  have HCP := hid fun W a b => l4Copy_row wd room (.slice ai its.length ci) (.slice ap ts.length cp) its ts W b1 b2 a b hli hlp
  obtain ⟨i0, hi0, hz0, hz1, hz2⟩ := info_parts Try.info9
  clear hi hp hA hN7 hsi hsp
  go_enter Try.func19, Try.ntmps19
  go_wp2_with fail
  refine HV.out.mono ?_
  rintro e w1 ⟨b, rfl, hb, hb1⟩
  have N1 := HN.out.below hb1
  have N7 := HN7.out.below hb1
  have B1 := HA.out.trans (hb1.mono (by simp; omega))
  clear hb1
  cases b with
  | false =>
    have HF : Hid (PinR wd room its ts name 0 0 [] [] 1) := .inl ⟨(fun h => by have := hb.2 h.1; cases this), rfl, rfl, rfl, rfl, rfl⟩
    have s9 := N7.store4 (.int .i64 0) (.int .i64 0) (.slice none 0 0) (.slice none 0 0)
    have s0 := s9.a0; have s1 := s9.a1; have s2 := s9.a2; have s3 := s9.a3
    have k0 := s9.f0; have k1 := s9.f1; have k2 := s9.f2; have k3 := s9.f3
    have Z := hid s9.z
    have BB := hid ((((B1.setCell (p := ⟨w.heap.size + 1, 0, none⟩) (by simp) (.int .i64 0)).setCell (p := ⟨w.heap.size + 1, 1, none⟩) (by simp) (.int .i64 0)).setCell (p := ⟨w.heap.size + 1, 2, none⟩) (by simp) (.slice none 0 0)).setCell (p := ⟨w.heap.size + 1, 3, none⟩) (by simp) (.slice none 0 0))
    clear s9
    clear N1 N7 B1 hb
    go_wp2
    refine bodyPost_ret (v := .tuple #[.agg #[.int .i64 0, .int .i64 0, .slice none 0 0, .slice none 0 0], .int .i64 1]) (by simp [results, Try.results19, go_sem, Z.out.cell]) rfl ⟨0, 0, [], [], 1, _, _, rfl, HF.out, StoreOwn.none _ _, BB.out⟩
  | true =>
  have HVAL := hid (hb.1 rfl)
  clear hb
  have x0 : w1.cell? ⟨w.heap.size, 0, none⟩ = some (.int .i64 wd) := N1.cell 0
  have x1 : w1.cell? ⟨w.heap.size, 1, none⟩ = some (.int .i64 room) := N1.cell 1
  have x2 : w1.cell? ⟨w.heap.size, 2, none⟩ = some (.slice ai its.length ci) := N1.cell 2
  have x3 : w1.cell? ⟨w.heap.size, 3, none⟩ = some (.slice ap ts.length cp) := N1.cell 3
  by_cases hsz : (name.size : Int) = wd
  case neg =>
    have HF : Hid (PinR wd room its ts name 0 0 [] [] 1) := .inl ⟨fun h => hsz h.2, rfl, rfl, rfl, rfl, rfl⟩
    have s9 := N7.store4 (.int .i64 0) (.int .i64 0) (.slice none 0 0) (.slice none 0 0)
    have s0 := s9.a0; have s1 := s9.a1; have s2 := s9.a2; have s3 := s9.a3
    have k0 := s9.f0; have k1 := s9.f1; have k2 := s9.f2; have k3 := s9.f3
    have Z := hid s9.z
    have BB := hid ((((B1.setCell (p := ⟨w.heap.size + 1, 0, none⟩) (by simp) (.int .i64 0)).setCell (p := ⟨w.heap.size + 1, 1, none⟩) (by simp) (.int .i64 0)).setCell (p := ⟨w.heap.size + 1, 2, none⟩) (by simp) (.slice none 0 0)).setCell (p := ⟨w.heap.size + 1, 3, none⟩) (by simp) (.slice none 0 0))
    clear s9
    clear N1 N7 B1
    go_wp2
    refine bodyPost_ret (v := .tuple #[.agg #[.int .i64 0, .int .i64 0, .slice none 0 0, .slice none 0 0], .int .i64 1]) (by simp [results, Try.results19, go_sem, Z.out.cell]) rfl ⟨0, 0, [], [], 1, _, _, rfl, HF.out, StoreOwn.none _ _, BB.out⟩
  have HCP1 := hid (HCP.out w1 (row_below HI.out B1) (Below.row B1 HP.out))
  go_wp2_with fail
  refine HCP1.out.mono ?_
  rintro e w3 ⟨v3, p3, rfl, ho3, hp3, hap, hb3⟩
  obtain ⟨a4, c4, rfl⟩ := row_any ho3
  obtain ⟨b4, d4, rfl⟩ := row_any hp3
  have M7 := N7.below hb3
  have B3 := B1.trans (hb3.mono B1.size)
  have hlt7 := N7.lt
  have hs13 := hb3.size
  have W7 := (M7.alloc (.cells #[.int .i64 wd, .int .i64 room, .slice a4 its.length c4, .slice b4 ts.length d4] 30)).alloc (.cells #[] 9)
  have WT := (Blk.new w3 30 #[.int .i64 wd, .int .i64 room, .slice a4 its.length c4, .slice b4 ts.length d4]).alloc (.cells #[] 9)
  have WO : ((w3.alloc (.cells #[.int .i64 wd, .int .i64 room, .slice a4 its.length c4, .slice b4 ts.length d4] 30)).alloc (.cells #[] 9)).ownsRow (w3.heap.size + 1) 9 1 (.slice (some ⟨w3.heap.size + 1, 0, none⟩) 0 0) 0 [] := by
    have := World.ownsRow_made (base := w3.heap.size + 1) (e := 9) (size := 1) (w3.alloc (.cells #[.int .i64 wd, .int .i64 room, .slice a4 its.length c4, .slice b4 ts.length d4] 30)) #[] 0 (by simp) (by simp [maxLen]) rfl
    rw [World.size_alloc] at this
    exact this
  have WI := (ho3.alloc (.cells #[.int .i64 wd, .int .i64 room, .slice a4 its.length c4, .slice b4 ts.length d4] 30)).alloc (.cells #[] 9)
  have WP := (hp3.alloc (.cells #[.int .i64 wd, .int .i64 room, .slice a4 its.length c4, .slice b4 ts.length d4] 30)).alloc (.cells #[] 9)
  have WB := (B3.alloc B3.size (.cells #[.int .i64 wd, .int .i64 room, .slice a4 its.length c4, .slice b4 ts.length d4] 30)).alloc (by have := B3.size; simp; omega) (.cells #[] 9)
  have HLI := hid ho3.lt
  have HW7 := hid W7
  have HWT := hid WT
  have HWO := hid WO
  have HWI := hid WI
  have HWB := hid WB
  have HWP := hid WP
  have hw3 := B3.size
  have HAD := hid (l4Add_any (.slice b4 ts.length d4) ts name _ _ WP (okSums_asc HVAL.out.sums) hlp)
  have hpl := HVAL.out.pins
  have hl9 : (addT name ts).length ≤ 1048576 := by
    unfold addT
    split
    · exact hlp
    · have := cutN_le name ts
      simp
      omega
  have HF2 : Hid (10 < (addT name ts).length → PinR wd room its ts name 0 0 [] [] 2) := fun h => .inr (.inl ⟨⟨HVAL.out, hsz⟩, h, rfl, rfl, rfl, rfl, rfl⟩)
  have HF0 : Hid (¬ 10 < (addT name ts).length → PinR wd room its ts name wd room its (addT name ts) 0) := fun h => .inr (.inr ⟨⟨HVAL.out, hsz⟩, by omega, rfl, rfl, rfl, rfl, rfl⟩)
  clear N1 N7 B1 M7 B3 hb3 W7 WT WO WI WB WP ho3 hp3 hap
  go_wp2_with fail
  refine HAD.out.mono ?_
  rintro e w5 ⟨v5, rfl, hv5, hb5⟩
  have hrow5 : ∃ base, w5.ownsRow base 9 1 v5 (addT name ts).length ((addT name ts).map Value.string) := by
    rcases hv5 with ⟨h1, h2, rfl⟩ | ⟨h1, h2⟩
    · rw [addT, if_pos ⟨h1, h2⟩]
      exact ⟨_, Below.row hb5 HWP.out⟩
    · rw [addT, if_neg h1]
      have e : (ts.take (cutN name ts) ++ name :: ts.drop (cutN name ts)).length = ts.length + 1 := by
        have := cutN_le name ts
        simp
        omega
      rw [e]
      exact ⟨_, h2⟩
  obtain ⟨b5, hrow5⟩ := hrow5
  obtain ⟨a5, c5, rfl⟩ := row_any hrow5
  have O5 := Below.row hb5 HWO.out
  have T5 := HWT.out.below hb5
  have S7 := HW7.out.below hb5
  have I5 := Below.row hb5 HWI.out
  have B5 := HWB.out.trans (hb5.mono HWB.out.size)
  have hs5 := hb5.size
  simp only [World.size_alloc] at hs5
  generalize addT name ts = ts9 at *
  clear hv5 hb5 HAD HWP HWO HWT HW7 HWI HWB x0 x1 x2 x3
  by_cases hgt : 10 < ts9.length
  · have HF := hid (HF2.out hgt)
    go_wp2_with (at_builtin; refine append_texts rfl _ _ rfl (w3.heap.size + 1) (.slice (some ⟨w3.heap.size + 1, 0, none⟩) 0 0) rfl O5 b5 _ ts9 (by go_simp) hrow5 hl9 (by omega) ?_; intro v6 w6 ho6 hb6; obtain ⟨a6, c6, rfl⟩ := row_any ho6; have T6 := T5.belowAt hb6 (by omega); have d3 := T6.cell 3; have g3 := T6.fz 3; have hU := grownBy_setCellAt w6 w3.heap.size 3 (.slice a6 ts9.length c6); have T6s := T6.set 3 (.slice a6 ts9.length c6); have t3 : (w6.setCell ⟨w3.heap.size, 3, none⟩ (.slice a6 ts9.length c6)).cell? ⟨w3.heap.size, 3, none⟩ = some (.slice a6 ts9.length c6) := T6s.cell 3; have N4 := (S7.belowAt hb6 (by omega)).kept hU (fun e => by have := Option.some.inj e; omega); have BF := (B5.trans (hb6.mono (by omega))).setCell (p := ⟨w3.heap.size, 3, none⟩) (by show w.heap.size ≤ w3.heap.size; omega) (.slice a6 ts9.length c6); have s9 := N4.store4 (.int .i64 0) (.int .i64 0) (.slice none 0 0) (.slice none 0 0); have s0 := s9.a0; have s1 := s9.a1; have s2 := s9.a2; have s3 := s9.a3; have k0 := s9.f0; have k1 := s9.f1; have k2 := s9.f2; have k3 := s9.f3; have Z := hid s9.z; have BB := hid ((((BF.setCell (p := ⟨w.heap.size + 1, 0, none⟩) (by simp) (.int .i64 0)).setCell (p := ⟨w.heap.size + 1, 1, none⟩) (by simp) (.int .i64 0)).setCell (p := ⟨w.heap.size + 1, 2, none⟩) (by simp) (.slice none 0 0)).setCell (p := ⟨w.heap.size + 1, 3, none⟩) (by simp) (.slice none 0 0)); clear s9 N4 BF T6 T6s hU ho6 hb6)
    refine bodyPost_ret (v := .tuple #[.agg #[.int .i64 0, .int .i64 0, .slice none 0 0, .slice none 0 0], .int .i64 2]) (by simp [results, Try.results19, go_sem, Z.out.cell]) rfl ⟨0, 0, [], [], 2, _, _, rfl, HF.out, StoreOwn.none _ _, BB.out⟩
  · have HF := hid (HF0.out hgt)
    go_wp2_with (at_builtin; refine append_texts rfl _ _ rfl (w3.heap.size + 1) (.slice (some ⟨w3.heap.size + 1, 0, none⟩) 0 0) rfl O5 b5 _ ts9 (by go_simp) hrow5 hl9 (by omega) ?_; intro v6 w6 ho6 hb6; obtain ⟨a6, c6, rfl⟩ := row_any ho6; have T6 := T5.belowAt hb6 (by omega); have d3 := T6.cell 3; have g3 := T6.fz 3; have hU := grownBy_setCellAt w6 w3.heap.size 3 (.slice a6 ts9.length c6); have T6s := T6.set 3 (.slice a6 ts9.length c6); have t3 : (w6.setCell ⟨w3.heap.size, 3, none⟩ (.slice a6 ts9.length c6)).cell? ⟨w3.heap.size, 3, none⟩ = some (.slice a6 ts9.length c6) := T6s.cell 3; have N4 := (S7.belowAt hb6 (by omega)).kept hU (fun e => by have := Option.some.inj e; omega); have BF := (B5.trans (hb6.mono (by omega))).setCell (p := ⟨w3.heap.size, 3, none⟩) (by show w.heap.size ≤ w3.heap.size; omega) (.slice a6 ts9.length c6); have s9 := N4.store4 (.int .i64 wd) (.int .i64 room) (.slice a4 its.length c4) (.slice a6 ts9.length c6); have s0 := s9.a0; have s1 := s9.a1; have s2 := s9.a2; have s3 := s9.a3; have k0 := s9.f0; have k1 := s9.f1; have k2 := s9.f2; have k3 := s9.f3; have Z := hid s9.z; have BB := hid ((((BF.setCell (p := ⟨w.heap.size + 1, 0, none⟩) (by simp) (.int .i64 wd)).setCell (p := ⟨w.heap.size + 1, 1, none⟩) (by simp) (.int .i64 room)).setCell (p := ⟨w.heap.size + 1, 2, none⟩) (by simp) (.slice a4 its.length c4)).setCell (p := ⟨w.heap.size + 1, 3, none⟩) (by simp) (.slice a6 ts9.length c6)); have t0 : (w6.setCell ⟨w3.heap.size, 3, none⟩ (.slice a6 ts9.length c6)).cell? ⟨w3.heap.size, 0, none⟩ = some (.int .i64 wd) := T6s.cell 0; have t1 : (w6.setCell ⟨w3.heap.size, 3, none⟩ (.slice a6 ts9.length c6)).cell? ⟨w3.heap.size, 1, none⟩ = some (.int .i64 room) := T6s.cell 1; have t2 : (w6.setCell ⟨w3.heap.size, 3, none⟩ (.slice a6 ts9.length c6)).cell? ⟨w3.heap.size, 2, none⟩ = some (.slice a4 its.length c4) := T6s.cell 2; have I6 : w6.ownsRow (w1.heap.size + 1) 52 2 (.slice a4 its.length c4) its.length (cellsI its) := row_same I5 (fun g e => hb6.block g (by have := (HLI.out g e).2; omega)); have I7 := I6.kept hU (.inr fun e => by have := (HLI.out _ e).2; omega); have P7 := ho6.kept hU (.inr fun e => by have := (ho6.lt _ e).1; omega); have hl6 := ho6.lt; have SO : StoreOwn (w6.setCell ⟨w3.heap.size, 3, none⟩ (.slice a6 ts9.length c6)) (w1.heap.size + 1) (.slice a4 its.length c4) (.slice a6 ts9.length c6) its ts9 := ⟨I7, ownsRow_base2 P7 (by omega), fun g e e2 => by have h1 := (HLI.out g e).2; have h2 := (hl6 g e2).1; omega⟩; have GG := fun (x : World) (j : Nat) (y : Value) => grownBy_setCellAt x (w.heap.size + 1) j y; have SO4 := hid ((((SO.kept (GG _ 0 (.int .i64 wd)) (by omega)).kept (GG _ 1 (.int .i64 room)) (by omega)).kept (GG _ 2 (.slice a4 its.length c4)) (by omega)).kept (GG _ 3 (.slice a6 ts9.length c6)) (by omega)); clear SO GG I6 I7 P7 hl6; clear s9 N4 BF T6 T6s hU ho6 hb6)
    refine bodyPost_ret (v := .tuple #[.agg #[.int .i64 wd, .int .i64 room, .slice a4 its.length c4, .slice a6 ts9.length c6], .int .i64 0]) (by simp [results, Try.results19, go_sem, Z.out.cell]) rfl ⟨wd, room, its, ts9, 0, _, _, rfl, HF.out, SO4.out.base (by omega), BB.out⟩
theorem specPin_any (wd room : Int) (vi vp : Value) (its : Itms) (ts : List ByteArray) (name : ByteArray) (w : World) (b1 b2 : Nat) (hi : OwnI w b1 vi its) (hp : w.ownsRow b2 9 1 vp ts.length (ts.map Value.string)) (hli : its.length ≤ 1048576) (hlp : ts.length ≤ 1048576) (hsi : ∀ i, (itx its i).size ≤ 1048576) (hsp : ∀ i, (tv ts i).size ≤ 1048576) :
    Calls Try.prog 19 #[.agg #[.int .i64 wd, .int .i64 room, vi, vp], .string name] w fun e w' => ∃ wd' room' its' ts' code vi' vp', e = .returned (.tuple #[.agg #[.int .i64 wd', .int .i64 room', vi', vp'], .int .i64 code]) ∧ PinR wd room its ts name wd' room' its' ts' code ∧ StoreOwn w' (w.heap.size + 2) vi' vp' its' ts' ∧ Below w.heap.size w w' :=
  specPin_row wd room vi vp its ts name w b1 b2 (own_row hi hli) hp hli hlp hsi hsp
end Go.Proofs.Ytmcipciimnncmaa
