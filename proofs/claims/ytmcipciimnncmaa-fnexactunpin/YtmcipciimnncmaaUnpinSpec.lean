/- spec.Unpin: left out. -/
import Derived.Test.YtmcipciimnncmaaUnpinMath
import Derived.Test.YtmcipciimnncmaaRowRd
namespace Go.Proofs.Ytmcipciimnncmaa
open Go.RowKit
/-- What an append into a store's row of pins leaves. -/
theorem text_stored {W w6 : World} {n₀ tb k m : Nat} {v v' : Value} {xs ys : List Value} {tmp : Obj} {T : TypeId} {cs : Array Value} (hB : Blk W tb T cs) (hrow : W.ownsRow n₀ 9 1 v k xs) (htb : tb < n₀) (hown' : w6.ownsRow n₀ 9 1 v' m ys) (hgrow : (W.alloc tmp).grownBy w6 v.ownBlock) :
    Blk w6 tb T cs ∧ (w6.setCell ⟨tb, 3, none⟩ v').ownsRow n₀ 9 1 v' m ys := by
  have hlt : ∀ g, v.ownBlock = some g → n₀ ≤ g := fun g e => (hrow.lt g e).1
  have hlt' : ∀ g, v'.ownBlock = some g → n₀ ≤ g := fun g e => (hown'.lt g e).1
  exact ⟨(hB.alloc tmp).kept hgrow (fun e => by have := hlt tb e.symm; omega), hown'.kept (grownBy_setCellAt w6 tb 3 v') (.inr fun e => by have := hlt' tb e; omega)⟩
set_option maxRecDepth 100000 in
set_option maxHeartbeats 2000000 in
theorem specUnpin_row (wd room : Int) (vi vp : Value) (its : Itms) (ts : List ByteArray) (name : ByteArray) (w : World) (b1 b2 : Nat) (hi : w.ownsRow b1 52 2 vi its.length (cellsI its)) (hp : w.ownsRow b2 9 1 vp ts.length (ts.map Value.string)) (hli : its.length ≤ 1048576) (hlp : ts.length ≤ 1048576) (hsi : ∀ i, (itx its i).size ≤ 1048576) (hsp : ∀ i, (tv ts i).size ≤ 1048576) :
    Calls Try.prog 13 #[.agg #[.int .i64 wd, .int .i64 room, vi, vp], .string name] w fun e w' => ∃ wd' room' its' ts' code vi' vp', e = .returned (.tuple #[.agg #[.int .i64 wd', .int .i64 room', vi', vp'], .int .i64 code]) ∧ UnpinR wd room its ts name wd' room' its' ts' code ∧ StoreOwn w' (w.heap.size + 2) vi' vp' its' ts' ∧ Below w.heap.size w w' := by
  obtain ⟨ai, ci, hvi⟩ : ∃ ai ci, vi = .slice ai its.length ci := row_any hi
  subst hvi
  obtain ⟨ap, cp, rfl, _⟩ := row_form hp
  have hA := ((Below.refl w.heap.size w).alloc (Nat.le_refl _) (.cells #[.int .i64 wd, .int .i64 room, .slice ai its.length ci, .slice ap ts.length cp] 30)).alloc (by simp) (.cells #[.int .i64 0, .int .i64 0, .slice none 0 0, .slice none 0 0] 30)
  have HN := hid ((Blk.new w 30 #[.int .i64 wd, .int .i64 room, .slice ai its.length ci, .slice ap ts.length cp]).alloc (.cells #[.int .i64 0, .int .i64 0, .slice none 0 0, .slice none 0 0] 30))
  have hN7 := Blk.new (w.alloc (.cells #[.int .i64 wd, .int .i64 room, .slice ai its.length ci, .slice ap ts.length cp] 30)) 30 #[.int .i64 0, .int .i64 0, .slice none 0 0, .slice none 0 0]
  rw [World.size_alloc] at hN7
  have HN7 := hid hN7
  have HV := hid (specValidStore_any wd room _ _ its ts _ (rdi_row (Below.row hA hi)) (Reads.of_row (Below.row hA hp)) hli hlp hsi hsp)
  have HI := hid hi
  have HP := hid hp
  have HPR := hid (Reads.of_row hp).form
  have HA := hid hA
  have HCP := hid fun W a b => l4Copy_row wd room (.slice ai its.length ci) (.slice ap ts.length cp) its ts W b1 b2 a b hli hlp
  obtain ⟨i0, hi0, hz0, hz1, hz2⟩ := info_parts Try.info9
  clear hi hp hA hN7 hsi hsp
  go_enter Try.func13, Try.ntmps13
  go_wp2_with fail
  refine HV.out.mono ?_
  rintro e w1 ⟨b, rfl, hb, hb1⟩
  have N1 := HN.out.below hb1
  have N7 := HN7.out.below hb1
  have B1 := HA.out.trans (hb1.mono (by simp; omega))
  clear hb1
  cases b with
  | false =>
    have HF : Hid (UnpinR wd room its ts name 0 0 [] [] 1) := .inl ⟨(fun h => by have := hb.2 h.1; cases this), rfl, rfl, rfl, rfl, rfl⟩
    have s9 := N7.store4 (.int .i64 0) (.int .i64 0) (.slice none 0 0) (.slice none 0 0)
    have s0 := s9.a0; have s1 := s9.a1; have s2 := s9.a2; have s3 := s9.a3
    have k0 := s9.f0; have k1 := s9.f1; have k2 := s9.f2; have k3 := s9.f3
    have Z := hid s9.z
    have BB := hid ((((B1.setCell (p := ⟨w.heap.size + 1, 0, none⟩) (by simp) (.int .i64 0)).setCell (p := ⟨w.heap.size + 1, 1, none⟩) (by simp) (.int .i64 0)).setCell (p := ⟨w.heap.size + 1, 2, none⟩) (by simp) (.slice none 0 0)).setCell (p := ⟨w.heap.size + 1, 3, none⟩) (by simp) (.slice none 0 0))
    clear s9
    clear N1 N7 B1 hb
    go_wp2
    refine bodyPost_ret (v := .tuple #[.agg #[.int .i64 0, .int .i64 0, .slice none 0 0, .slice none 0 0], .int .i64 1]) (by simp [results, Try.results13, go_sem, Z.out.cell]) rfl ⟨0, 0, [], [], 1, _, _, rfl, HF.out, StoreOwn.none _ _, BB.out⟩
  | true =>
  have HVAL := hid (hb.1 rfl)
  clear hb
  have x0 : w1.cell? ⟨w.heap.size, 0, none⟩ = some (.int .i64 wd) := N1.cell 0
  have x1 : w1.cell? ⟨w.heap.size, 1, none⟩ = some (.int .i64 room) := N1.cell 1
  have x2 : w1.cell? ⟨w.heap.size, 2, none⟩ = some (.slice ai its.length ci) := N1.cell 2
  have x3 : w1.cell? ⟨w.heap.size, 3, none⟩ = some (.slice ap ts.length cp) := N1.cell 3
  by_cases hsz : (name.size : Int) = wd
  case neg =>
    have HF : Hid (UnpinR wd room its ts name 0 0 [] [] 1) := .inl ⟨fun h => hsz h.2, rfl, rfl, rfl, rfl, rfl⟩
    have s9 := N7.store4 (.int .i64 0) (.int .i64 0) (.slice none 0 0) (.slice none 0 0)
    have s0 := s9.a0; have s1 := s9.a1; have s2 := s9.a2; have s3 := s9.a3
    have k0 := s9.f0; have k1 := s9.f1; have k2 := s9.f2; have k3 := s9.f3
    have Z := hid s9.z
    have BB := hid ((((B1.setCell (p := ⟨w.heap.size + 1, 0, none⟩) (by simp) (.int .i64 0)).setCell (p := ⟨w.heap.size + 1, 1, none⟩) (by simp) (.int .i64 0)).setCell (p := ⟨w.heap.size + 1, 2, none⟩) (by simp) (.slice none 0 0)).setCell (p := ⟨w.heap.size + 1, 3, none⟩) (by simp) (.slice none 0 0))
    clear s9
    clear N1 N7 B1
    go_wp2
    refine bodyPost_ret (v := .tuple #[.agg #[.int .i64 0, .int .i64 0, .slice none 0 0, .slice none 0 0], .int .i64 1]) (by simp [results, Try.results13, go_sem, Z.out.cell]) rfl ⟨0, 0, [], [], 1, _, _, rfl, HF.out, StoreOwn.none _ _, BB.out⟩
  have HCP1 := hid (HCP.out w1 (row_below HI.out B1) (Below.row B1 HP.out))
  go_wp2_with fail
  refine HCP1.out.mono ?_
  rintro e w3 ⟨v3, p3, rfl, ho3, hp3, hap, hb3⟩
  obtain ⟨a4, c4, rfl⟩ := row_any ho3
  obtain ⟨b4, d4, rfl⟩ := row_any hp3
  have M1 := N1.below hb3
  have M7 := N7.below hb3
  have B3 := B1.trans (hb3.mono B1.size)
  have hlt7 := N7.lt
  have hs13 := hb3.size
  have W1 := (M1.alloc (.cells #[.int .i64 wd, .int .i64 room, .slice a4 its.length c4, .slice (some ⟨w3.heap.size + 1, 0, none⟩) 0 0] 30)).alloc (.cells #[] 9)
  have W7 := (M7.alloc (.cells #[.int .i64 wd, .int .i64 room, .slice a4 its.length c4, .slice (some ⟨w3.heap.size + 1, 0, none⟩) 0 0] 30)).alloc (.cells #[] 9)
  have WT := (Blk.new w3 30 #[.int .i64 wd, .int .i64 room, .slice a4 its.length c4, .slice (some ⟨w3.heap.size + 1, 0, none⟩) 0 0]).alloc (.cells #[] 9)
  have WO : ((w3.alloc (.cells #[.int .i64 wd, .int .i64 room, .slice a4 its.length c4, .slice (some ⟨w3.heap.size + 1, 0, none⟩) 0 0] 30)).alloc (.cells #[] 9)).ownsRow (w3.heap.size + 1) 9 1 (.slice (some ⟨w3.heap.size + 1, 0, none⟩) 0 0) 0 [] := by
    have := World.ownsRow_made (base := w3.heap.size + 1) (e := 9) (size := 1) (w3.alloc (.cells #[.int .i64 wd, .int .i64 room, .slice a4 its.length c4, .slice (some ⟨w3.heap.size + 1, 0, none⟩) 0 0] 30)) #[] 0 (by simp) (by simp [maxLen]) rfl
    rw [World.size_alloc] at this
    exact this
  have WI := ((ho3.alloc (.cells #[.int .i64 wd, .int .i64 room, .slice a4 its.length c4, .slice (some ⟨w3.heap.size + 1, 0, none⟩) 0 0] 30)).alloc (.cells #[] 9))
  have WB := (B3.alloc B3.size (.cells #[.int .i64 wd, .int .i64 room, .slice a4 its.length c4, .slice (some ⟨w3.heap.size + 1, 0, none⟩) 0 0] 30)).alloc (by have := B3.size; simp; omega) (.cells #[] 9)
  have HLI := hid ho3.lt
  have HW1 := hid W1
  have HW7 := hid W7
  have HWT := hid WT
  have HWO := hid WO
  have HWI := hid WI
  have HWB := hid WB
  have HPW := hid (Reads.of_row (Below.row WB HP.out))
  have hw3 := B3.size
  clear x0 x1 x2 x3 N1 N7 B1 M1 M7 B3 hb3 W1 W7 WT WO WI WB ho3 hp3 hap
  go_wp2
  go_loopw [7] (fun i wr => ∃ (k : Nat) (v : Value), k ≤ ts.length ∧ i = .int .i64 k ∧ Blk wr w3.heap.size 30 #[.int .i64 wd, .int .i64 room, .slice a4 its.length c4, v] ∧ wr.ownsRow (w3.heap.size + 1) 9 1 v (offL name (ts.take k)).length ((offL name (ts.take k)).map Value.string) ∧ (∀ g, v.ownBlock = some g → g < wr.heap.size) ∧ Below w3.heap.size ((w3.alloc (.cells #[.int .i64 wd, .int .i64 room, .slice a4 its.length c4, .slice (some ⟨w3.heap.size + 1, 0, none⟩) 0 0] 30)).alloc (.cells #[] 9)) wr) (fun i _ => ts.length - (intOf i).toNat)
  case atStart => exact ⟨0, _, Nat.zero_le _, rfl, HWT.out, HWO.out, fun g e => (HWO.out.lt g e).2, Below.refl _ _⟩
  case round =>
    obtain ⟨k, v, hk, rfl, hbx, hrow, hvl, hbl⟩ := hrel
    have X := HW1.out.belowAt hbl (by omega)
    have x3 : wr.cell? ⟨w.heap.size, 3, none⟩ = some (.slice ap ts.length cp) := X.cell 3
    have hsr := hbl.size
    simp only [World.size_alloc] at hsr
    by_cases hlt : k < ts.length
    · obtain ⟨ap', cp', e', hc⟩ := HPR.out
      cases e'
      obtain ⟨b, o, rfl, hbw, hcell⟩ := hc k hlt
      have Bw := HWB.out.trans (hbl.mono hw3)
      have hd : wr.cell? ⟨b, o + k, none⟩ = some (.string (tv ts k)) := (Bw.cell (p := ⟨b, o + k, none⟩) hbw).trans hcell
      have hst := off_step name ts k hlt
      have hnl : (offL name (ts.take k)).length ≤ 1048576 := Nat.le_trans (offL_len _ _) (by rw [List.length_take]; omega)
      generalize tv ts k = t at *
      have HBX := hid hbx
      have HROW := hid hrow
      have HBL := hid hbl
      have HVL := hid hvl
      clear hc hcell hbx hrow hbl hvl X Bw
      cases hx : (t.toList == name.toList) with
      | true =>
        rw [hx, if_pos rfl] at hst
        have HST := hid hst
        clear hst
        go_wp2
        refine ⟨⟨k + 1, v, by omega, by go_num, HBX.out, by rw [HST.out]; exact HROW.out, HVL.out, HBL.out⟩, by simp [intOf]; omega⟩
      | false =>
        rw [hx, if_neg (by simp)] at hst
        have HST := hid hst
        clear hst
        generalize offL name (ts.take k) = ps at *
        obtain ⟨n, hn⟩ : ∃ n, n = ps.length := ⟨_, rfl⟩
        rw [← hn] at HROW hnl
        have HNN := hid hn
        clear hn
        have hS0 : wr.drew.cell? ⟨w.heap.size, 3, none⟩ = some (.slice (some ⟨b, o, none⟩) ts.length cp) ∧ wr.drew.cell? ⟨b, o + k, none⟩ = some (.string t) := ⟨(cell_drew _ _).trans x3, (cell_drew _ _).trans hd⟩
        have A0 := (Below.refl wr.heap.size wr).alloc (Nat.le_refl _) (.cells #[.string t] 9)
        have l0 : wr.cell? ⟨w3.heap.size, 3, none⟩ = some v := HBX.out.cell 3
        have l1 : (wr.alloc (.cells #[.string t] 9)).cell? ⟨w3.heap.size, 3, none⟩ = some v := (HBX.out.alloc (.cells #[.string t] 9)).cell 3
        have hbr : b < wr.heap.size := by omega
        have hS0a : (wr.alloc (.cells #[.string t] 9)).drew.cell? ⟨w.heap.size, 3, none⟩ = some (.slice (some ⟨b, o, none⟩) ts.length cp) ∧ (wr.alloc (.cells #[.string t] 9)).drew.cell? ⟨b, o + k, none⟩ = some (.string t) := ⟨(cell_drew _ _).trans ((A0.cell (p := ⟨w.heap.size, 3, none⟩) (by show w.heap.size < wr.heap.size; omega)).trans x3), (cell_drew _ _).trans ((A0.cell (p := ⟨b, o + k, none⟩) hbr).trans hd)⟩
        have hrowT : (wr.alloc (.cells #[.string t] 9)).drew.ownsRow (w3.heap.size + 1) 9 1 v n (ps.map Value.string) := Below.row (below_drewN (Below.refl _ _) 1) (HROW.out.alloc (.cells #[.string t] 9))
        have hnews : ∀ j u, [Value.string t][j]? = some u → (wr.alloc (.cells #[.string t] 9)).drew.cell? ((⟨wr.heap.size, 0, none⟩ : Addr).add j) = some u := fun j u h => (cell_drew _ _).trans (cell_one_new wr (.string t) 9 j u h)
        clear A0
        go_wp2_with fail
        refine wp_region_held (S := fun w' => w'.cell? ⟨w.heap.size, 3, none⟩ = some (.slice (some ⟨b, o, none⟩) ts.length cp) ∧ w'.cell? ⟨b, o + k, none⟩ = some (.string t)) (by kernel_rfl) ?_
        change wpAnyH _ _ _ _ _ _ _ _ (World.drew _)
        refine wpAnyH_take (i := 0) (v := .pointer (some ⟨w3.heap.size, 3, none⟩)) rfl (by kernel_rfl) (by kernel_rfl) (by kernel_rfl) (fun _ _ _ h => h) (.inl ⟨rfl, fun w' hS => by obtain ⟨s1, s2⟩ := hS; go_simp⟩) hS0 ?_
        refine wpAnyH_take (i := 2) (v := .pointer (some ⟨w.heap.size, 3, none⟩)) rfl (by kernel_rfl) (by kernel_rfl) (by kernel_rfl) (fun _ _ _ h => h) (.inl ⟨rfl, fun w' hS => by obtain ⟨s1, s2⟩ := hS; go_simp⟩) hS0 ?_
        refine wpAnyH_take (i := 3) (v := .slice (some ⟨b, o, none⟩) ts.length cp) rfl (by kernel_rfl) (by kernel_rfl) (by kernel_rfl) (fun _ _ _ h => h) (.inl ⟨rfl, fun w' hS => by obtain ⟨s1, s2⟩ := hS; go_simp⟩) hS0 ?_
        refine wpAnyH_take (i := 4) (v := .int .i64 (k : Nat)) rfl (by kernel_rfl) (by kernel_rfl) (by kernel_rfl) (fun _ _ _ h => h) (.inl ⟨rfl, fun w' hS => by obtain ⟨s1, s2⟩ := hS; go_simp⟩) hS0 ?_
        refine wpAnyH_take (i := 5) (v := .pointer (some ⟨b, o + k, none⟩)) rfl (by kernel_rfl) (by kernel_rfl) (by kernel_rfl) (fun _ _ _ h => h) (.inl ⟨rfl, fun w' hS => by obtain ⟨s1, s2⟩ := hS; go_simp⟩) hS0 ?_
        refine wpAnyH_take (i := 6) (v := .string t) rfl (by kernel_rfl) (by kernel_rfl) (by kernel_rfl) (fun _ _ _ h => h) (.inl ⟨rfl, fun w' hS => by obtain ⟨s1, s2⟩ := hS; go_simp⟩) hS0 ?_
        refine held_two 1 7 (by kernel_rfl) (op_value (v := v) (w' := wr.drew) rfl rfl (by go_simp) ⟨hS0, ?_⟩) (op_value (v := .slice (some ⟨wr.heap.size, 0, none⟩) 1 1) (w' := (wr.alloc (.cells #[.string t] 9)).drew) rfl rfl (by go_simp) ⟨hS0a, ?_⟩)
        refine held_one 7 (by kernel_rfl) (op_value (v := .slice (some ⟨wr.heap.size, 0, none⟩) 1 1) (w' := (wr.alloc (.cells #[.string t] 9)).drew) rfl rfl (by go_simp) ⟨hS0a, ?_⟩)
        rotate_left
        refine held_one 1 (by kernel_rfl) (op_value (v := v) (w' := (wr.alloc (.cells #[.string t] 9)).drew) rfl rfl (by go_simp) ⟨hS0a, ?_⟩)
        all_goals
          refine held_one 8 (by kernel_rfl) (op_wp rfl rfl (wp_append_lies _ (.tmp 38) (.tmp 44) 23 rfl (w3.heap.size + 1) 9 i0 (.string ⟨#[]⟩) 1 16 Try.underlying23 hi0 hz0 hz1 hz2 rfl (by decide) v n _ (by go_simp) hrowT ⟨wr.heap.size, 0, none⟩ 1 1 [.string t] (by go_simp) rfl hnews (by simp [Value.oneCell']) (by decide) (by unfold maxLen; omega) (by omega) (by show w3.heap.size + 1 ≤ (wr.alloc (.cells #[.string t] 9)).heap.size; simp; omega) (wr.heap.size + 1) (by show (wr.alloc (.cells #[.string t] 9)).heap.size = _; simp) ?_))
          intro g' cap' w6 hown6 hgrow6 _ hlt6
          have hg6 : (wr.alloc (.cells #[.string t] 9)).grownBy w6 v.ownBlock := ⟨hgrow6.os, hgrow6.tape, hgrow6.output, hgrow6.size, hgrow6.block⟩
          obtain ⟨hbx6, hrow7⟩ := text_stored HBX.out HROW.out (by omega) hown6 hg6
          have B6 := ((Below.refl w3.heap.size wr).alloc (by omega) (.cells #[.string t] 9)).grown hg6 (by simp; omega) (fun g e => by have := (HROW.out.lt g e).1; omega)
          have B7 := B6.setCell (p := ⟨w3.heap.size, 3, none⟩) (Nat.le_refl _) (.slice (some ⟨g', 0, none⟩) (n + 1) cap')
          have hS6 : w6.cell? ⟨w.heap.size, 3, none⟩ = some (.slice (some ⟨b, o, none⟩) ts.length cp) ∧ w6.cell? ⟨b, o + k, none⟩ = some (.string t) := ⟨(B6.cell (p := ⟨w.heap.size, 3, none⟩) (by show w.heap.size < w3.heap.size; omega)).trans x3, (B6.cell (p := ⟨b, o + k, none⟩) (by show b < w3.heap.size; omega)).trans ((cell_drew _ _).symm.trans hS0.2)⟩
          have hS7 : (w6.setCell ⟨w3.heap.size, 3, none⟩ (.slice (some ⟨g', 0, none⟩) (n + 1) cap')).cell? ⟨w.heap.size, 3, none⟩ = some (.slice (some ⟨b, o, none⟩) ts.length cp) ∧ (w6.setCell ⟨w3.heap.size, 3, none⟩ (.slice (some ⟨g', 0, none⟩) (n + 1) cap')).cell? ⟨b, o + k, none⟩ = some (.string t) := ⟨(B7.cell (p := ⟨w.heap.size, 3, none⟩) (by show w.heap.size < w3.heap.size; omega)).trans x3, (B7.cell (p := ⟨b, o + k, none⟩) (by show b < w3.heap.size; omega)).trans ((cell_drew _ _).symm.trans hS0.2)⟩
          have c6 : w6.cell? ⟨w3.heap.size, 3, none⟩ = some v := hbx6.cell 3
          have f6 := hbx6.fz 3
          refine ⟨hS6, ?_⟩
          refine wpAnyH_take (i := 9) (v := .pointer (some ⟨w3.heap.size, 3, none⟩)) rfl (by kernel_rfl) (by kernel_rfl) (by kernel_rfl) (fun _ _ _ h => h) (.inl ⟨rfl, fun w' hS => by obtain ⟨s1, s2⟩ := hS; go_simp⟩) hS6 ?_
          refine held_one 10 (by kernel_rfl) (op_skip (w' := (w6.setCell ⟨w3.heap.size, 3, none⟩ (.slice (some ⟨g', 0, none⟩) (n + 1) cap'))) rfl rfl (by go_simp) ⟨hS7, wpAnyH_done (by kernel_rfl) ?_ _⟩)
          have Z7 := hid (hbx6.set 3 (.slice (some ⟨g', 0, none⟩) (n + 1) cap'))
          have O7 := hid hrow7
          have HB7 := hid (HBL.out.trans (B7.mono (by omega)))
          clear hS0 hS0a hS6 hS7 hbx6 hrow7 hown6 hgrow6 hg6 c6 f6 l0 l1 B6 B7 hrowT hnews
          go_simp
          go_wp2
          refine ⟨⟨k + 1, .slice (some ⟨g', 0, none⟩) (n + 1) cap', by omega, by go_num, Z7.out, ?_, fun g e => (O7.out.lt g e).2, HB7.out⟩, by simp [intOf]; omega⟩
          rw [HST.out, List.length_append, ← HNN.out, List.map_append]
          exact O7.out
    · obtain rfl : k = ts.length := by omega
      rw [List.take_length] at hrow
      have HROW := hid hrow
      obtain ⟨av, dv, rfl⟩ := row_any hrow
      have N4 := HW7.out.belowAt hbl (by omega)
      have BF := HWB.out.trans (hbl.mono hw3)
      have t3 : wr.cell? ⟨w3.heap.size, 3, none⟩ = some (.slice av (offL name ts).length dv) := hbx.cell 3
      by_cases hno : ∀ i, i < ts.length → tv ts i ≠ name
      · have hol := off_none hno
        have HF : Hid (UnpinR wd room its ts name 0 0 [] [] 2) := .inr (.inl ⟨⟨HVAL.out, hsz⟩, hno, rfl, rfl, rfl, rfl, rfl⟩)
        rw [hol] at t3
        have s9 := N4.store4 (.int .i64 0) (.int .i64 0) (.slice none 0 0) (.slice none 0 0)
        have s0 := s9.a0; have s1 := s9.a1; have s2 := s9.a2; have s3 := s9.a3
        have k0 := s9.f0; have k1 := s9.f1; have k2 := s9.f2; have k3 := s9.f3
        have Z := hid s9.z
        have BB := hid ((((BF.setCell (p := ⟨w.heap.size + 1, 0, none⟩) (by simp) (.int .i64 0)).setCell (p := ⟨w.heap.size + 1, 1, none⟩) (by simp) (.int .i64 0)).setCell (p := ⟨w.heap.size + 1, 2, none⟩) (by simp) (.slice none 0 0)).setCell (p := ⟨w.heap.size + 1, 3, none⟩) (by simp) (.slice none 0 0))
        clear s9
        clear N4 BF hbx hrow hbl hvl X hno hol
        go_wp2
        refine bodyPost_ret (v := .tuple #[.agg #[.int .i64 0, .int .i64 0, .slice none 0 0, .slice none 0 0], .int .i64 2]) (by simp [results, Try.results13, go_sem, Z.out.cell]) rfl ⟨0, 0, [], [], 2, _, _, rfl, HF.out, StoreOwn.none _ _, BB.out⟩
      · obtain ⟨i, hil, hnm⟩ : ∃ i, i < ts.length ∧ tv ts i = name := by
          refine Classical.byContradiction fun h => hno fun i hi e => h ⟨i, hi, e⟩
        have hol := off_one (okSums_asc HVAL.out.sums) hil hnm
        have hle : (ts.eraseIdx i).length = ts.length - 1 := by rw [List.length_eraseIdx, if_pos hil]
        have HF : Hid (UnpinR wd room its ts name wd room its (ts.eraseIdx i) 0) := .inr (.inr ⟨⟨HVAL.out, hsz⟩, rfl, rfl, rfl, rfl, i, hil, hnm, rfl⟩)
        have hneq : ¬ (((offL name ts).length : Int) = (ts.length : Int)) := by rw [hol, hle]; omega
        have hneq2 : ¬ ((offL name ts).length = ts.length) := by rw [hol, hle]; omega
        have WIr := row_same HWI.out (fun g e => hbl.block g (HLI.out g e).2)
        have SO : StoreOwn wr (w1.heap.size + 1) (.slice a4 its.length c4) (.slice av (offL name ts).length dv) its (offL name ts) := ⟨WIr, ownsRow_base2 hrow (by omega), fun g e e2 => by have h1 := (HLI.out g e).2; have h2 := (HROW.out.lt g e2).1; omega⟩
        have t0 : wr.cell? ⟨w3.heap.size, 0, none⟩ = some (.int .i64 wd) := hbx.cell 0
        have t1 : wr.cell? ⟨w3.heap.size, 1, none⟩ = some (.int .i64 room) := hbx.cell 1
        have t2 : wr.cell? ⟨w3.heap.size, 2, none⟩ = some (.slice a4 its.length c4) := hbx.cell 2
        have s9 := N4.store4 (.int .i64 wd) (.int .i64 room) (.slice a4 its.length c4) (.slice av (offL name ts).length dv)
        have s0 := s9.a0; have s1 := s9.a1; have s2 := s9.a2; have s3 := s9.a3
        have k0 := s9.f0; have k1 := s9.f1; have k2 := s9.f2; have k3 := s9.f3
        have Z := hid s9.z
        have BB := hid ((((BF.setCell (p := ⟨w.heap.size + 1, 0, none⟩) (by simp) (.int .i64 wd)).setCell (p := ⟨w.heap.size + 1, 1, none⟩) (by simp) (.int .i64 room)).setCell (p := ⟨w.heap.size + 1, 2, none⟩) (by simp) (.slice a4 its.length c4)).setCell (p := ⟨w.heap.size + 1, 3, none⟩) (by simp) (.slice av (offL name ts).length dv))
        clear s9
        have GG := fun (x : World) (j : Nat) (y : Value) => grownBy_setCellAt x (w.heap.size + 1) j y
        have SO4 := hid ((((SO.kept (GG _ 0 (.int .i64 wd)) (by omega)).kept (GG _ 1 (.int .i64 room)) (by omega)).kept (GG _ 2 (.slice a4 its.length c4)) (by omega)).kept (GG _ 3 (.slice av (offL name ts).length dv)) (by omega))
        rw [← hol] at HF
        clear N4 BF hbx hrow hbl hvl X hno hol hle SO GG WIr
        generalize offL name ts = ts9 at *
        go_wp2
        refine bodyPost_ret (v := .tuple #[.agg #[.int .i64 wd, .int .i64 room, .slice a4 its.length c4, .slice av ts9.length dv], .int .i64 0]) (by simp [results, Try.results13, go_sem, Z.out.cell]) rfl ⟨wd, room, its, ts9, 0, _, _, rfl, HF.out, SO4.out.base (by omega), BB.out⟩
theorem specUnpin_any (wd room : Int) (vi vp : Value) (its : Itms) (ts : List ByteArray) (name : ByteArray) (w : World) (b1 b2 : Nat) (hi : OwnI w b1 vi its) (hp : w.ownsRow b2 9 1 vp ts.length (ts.map Value.string)) (hli : its.length ≤ 1048576) (hlp : ts.length ≤ 1048576) (hsi : ∀ i, (itx its i).size ≤ 1048576) (hsp : ∀ i, (tv ts i).size ≤ 1048576) :
    Calls Try.prog 13 #[.agg #[.int .i64 wd, .int .i64 room, vi, vp], .string name] w fun e w' => ∃ wd' room' its' ts' code vi' vp', e = .returned (.tuple #[.agg #[.int .i64 wd', .int .i64 room', vi', vp'], .int .i64 code]) ∧ UnpinR wd room its ts name wd' room' its' ts' code ∧ StoreOwn w' (w.heap.size + 2) vi' vp' its' ts' ∧ Below w.heap.size w w' :=
  specUnpin_row wd room vi vp its ts name w b1 b2 (own_row hi hli) hp hli hlp hsi hsp
end Go.Proofs.Ytmcipciimnncmaa
