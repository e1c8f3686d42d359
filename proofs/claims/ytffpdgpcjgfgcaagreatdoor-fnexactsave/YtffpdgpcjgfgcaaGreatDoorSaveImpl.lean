/- impl.Save. -/
import Derived.Test.YtffpdgpcjgfgcaaGreatDoorSaveShelf
namespace Go.Proofs.YtffpdgpcjgfgcaaGreatDoor
open Go.RowKit
set_option maxRecDepth 100000 in
set_option maxHeartbeats 4000000 in
theorem implSave_any (wd room : Int) (vi vp : Value) (its : Itms) (ts : List ByteArray) (s : ByteArray) (now : Int) (w : World) (hi : RdI w vi its) (hp : Reads w vp ts) (hli : its.length ≤ 1048576) (hlp : ts.length ≤ 1048576) (hsi : ∀ i, (itx its i).size ≤ 1048576) (hsp : ∀ i, (tv ts i).size ≤ 1048576) (hE : Errs w) :
    Calls Tryz.prog 13 #[.agg #[.int .i64 wd, .int .i64 room, vi, vp], .string s, .int .i64 now] w fun e w' => ∃ wd' room' its' ts' code vi' vp', e = .returned (.tuple #[.agg #[.int .i64 wd', .int .i64 room', vi', vp'], .int .i64 code]) ∧ SaveR wd room its ts s now wd' room' its' ts' code ∧ StoreOwn w' (w.heap.size + 2) vi' vp' its' ts' ∧ Below w.heap.size w w' := by
  obtain ⟨ai, ci, rfl, hci⟩ := hi
  obtain ⟨ap, cp, rfl, _⟩ := hp.form
  have hi : RdI w (.slice ai its.length ci) its := ⟨ai, ci, rfl, hci⟩
  have hA := ((Below.refl w.heap.size w).alloc (Nat.le_refl _) (.cells #[.int .i64 wd, .int .i64 room, .slice ai its.length ci, .slice ap ts.length cp] 29)).alloc (by simp) (.cells #[.int .i64 0, .int .i64 0, .slice none 0 0, .slice none 0 0] 29)
  have hN7 := Blk.new (w.alloc (.cells #[.int .i64 wd, .int .i64 room, .slice ai its.length ci, .slice ap ts.length cp] 29)) 29 #[.int .i64 0, .int .i64 0, .slice none 0 0, .slice none 0 0]
  rw [World.size_alloc] at hN7
  have HN7 := hid hN7
  have HO := hid (openStore_any wd room _ _ its ts _ (hi.below hA) (hp.below hA) hli hlp hsi hsp)
  have HA := hid hA
  have HSI := hid hsi
  have HSP := hid hsp
  have HE := hid hE
  clear hi hp hA hN7 hsi hsp hci hE
  go_enter Tryz.func13, Tryz.ntmps13
  go_wp2_with fail
  refine HO.out.mono ?_
  rintro e w1 (⟨hn, rfl, hb1⟩ | ⟨hv, sb, mb, vc, rfl, hsh, hb1⟩)
  · have N7 := HN7.out.below hb1
    have B1 := HA.out.trans (hb1.mono (by simp; omega))
    have HF : Hid (SaveR wd room its ts s now 0 0 [] [] 1) := .inl ⟨fun h => hn h.1, rfl, rfl, rfl, rfl, rfl⟩
    have s9 := N7.store4 (.int .i64 0) (.int .i64 0) (.slice none 0 0) (.slice none 0 0)
    have s0 := s9.a0; have s1 := s9.a1; have s2 := s9.a2; have s3 := s9.a3
    have k0 := s9.f0; have k1 := s9.f1; have k2 := s9.f2; have k3 := s9.f3
    have Z := hid s9.z
    have BB := hid ((((B1.setCell (p := ⟨w.heap.size + 1, 0, none⟩) (by simp) (.int .i64 0)).setCell (p := ⟨w.heap.size + 1, 1, none⟩) (by simp) (.int .i64 0)).setCell (p := ⟨w.heap.size + 1, 2, none⟩) (by simp) (.slice none 0 0)).setCell (p := ⟨w.heap.size + 1, 3, none⟩) (by simp) (.slice none 0 0))
    clear s9
    clear N7 B1 hn hb1
    go_wp2
    refine bodyPost_ret (v := .tuple #[.agg #[.int .i64 0, .int .i64 0, .slice none 0 0, .slice none 0 0], .int .i64 1]) (by simp [results, Tryz.results13, go_sem, Z.out.cell]) rfl ⟨0, 0, [], [], 1, _, _, rfl, HF.out, StoreOwn.none _ _, BB.out⟩
  have N7 := HN7.out.below hb1
  have B1 := HA.out.trans (hb1.mono (by simp; omega))
  have hsbl := hsh.hs
  have hmbl := hsh.hm
  simp only [World.size_alloc] at hsbl hmbl
  have hrl : ∀ g, vc.ownBlock = some g → w.heap.size + 1 + 1 ≤ g := fun g e => by have := (hsh.row.lt g e).1; simpa using this
  obtain ⟨ac, cc, rfl, _⟩ := row_form hsh.row
  have hTM := fun W => isTime_any now W
  by_cases hsz : s.size ≤ 3000
  case neg =>
    have hszb : decide ((3000 : Int) < (s.size : Int)) = true := decide_eq_true (by omega)
    have HF : Hid (SaveR wd room its ts s now 0 0 [] [] 1) := .inl ⟨fun h => hsz h.2.1, rfl, rfl, rfl, rfl, rfl⟩
    have s9 := N7.store4 (.int .i64 0) (.int .i64 0) (.slice none 0 0) (.slice none 0 0)
    have s0 := s9.a0; have s1 := s9.a1; have s2 := s9.a2; have s3 := s9.a3
    have k0 := s9.f0; have k1 := s9.f1; have k2 := s9.f2; have k3 := s9.f3
    have Z := hid s9.z
    have BB := hid ((((B1.setCell (p := ⟨w.heap.size + 1, 0, none⟩) (by simp) (.int .i64 0)).setCell (p := ⟨w.heap.size + 1, 1, none⟩) (by simp) (.int .i64 0)).setCell (p := ⟨w.heap.size + 1, 2, none⟩) (by simp) (.slice none 0 0)).setCell (p := ⟨w.heap.size + 1, 3, none⟩) (by simp) (.slice none 0 0))
    clear s9 hsh hb1 N7 B1 hrl hv hTM
    go_wp2
    refine bodyPost_ret (v := .tuple #[.agg #[.int .i64 0, .int .i64 0, .slice none 0 0, .slice none 0 0], .int .i64 1]) (by simp [results, Tryz.results13, go_sem, Z.out.cell]) rfl ⟨0, 0, [], [], 1, _, _, rfl, HF.out, StoreOwn.none _ _, BB.out⟩
  have hszb : decide ((3000 : Int) < (s.size : Int)) = false := decide_eq_false (by omega)
  by_cases htm : 0 ≤ now ∧ now ≤ 1000000
  case neg =>
    have HF : Hid (SaveR wd room its ts s now 0 0 [] [] 1) := .inl ⟨fun h => htm h.2.2, rfl, rfl, rfl, rfl, rfl⟩
    rw [decide_eq_false htm] at hTM
    have HTM := hid hTM
    have s9 := N7.store4 (.int .i64 0) (.int .i64 0) (.slice none 0 0) (.slice none 0 0)
    have s0 := s9.a0; have s1 := s9.a1; have s2 := s9.a2; have s3 := s9.a3
    have k0 := s9.f0; have k1 := s9.f1; have k2 := s9.f2; have k3 := s9.f3
    have Z := hid s9.z
    have BB := hid ((((B1.setCell (p := ⟨w.heap.size + 1, 0, none⟩) (by simp) (.int .i64 0)).setCell (p := ⟨w.heap.size + 1, 1, none⟩) (by simp) (.int .i64 0)).setCell (p := ⟨w.heap.size + 1, 2, none⟩) (by simp) (.slice none 0 0)).setCell (p := ⟨w.heap.size + 1, 3, none⟩) (by simp) (.slice none 0 0))
    clear s9 hsh hb1 N7 B1 hrl hv hTM htm
    go_wp2_with (go_at_call 40; refine (HTM.out _).mono ?_; rintro e w' ⟨rfl, rfl⟩)
    refine bodyPost_ret (v := .tuple #[.agg #[.int .i64 0, .int .i64 0, .slice none 0 0, .slice none 0 0], .int .i64 1]) (by simp [results, Tryz.results13, go_sem, Z.out.cell]) rfl ⟨0, 0, [], [], 1, _, _, rfl, HF.out, StoreOwn.none _ _, BB.out⟩
  rw [decide_eq_true htm] at hTM
  have HTM := hid hTM
  have hbx := hsh.box
  rw [List.take_length] at hbx
  have HUP := hid (shelfSave_any sb mb (w.heap.size + 2) (.slice ac ts.length cc) wd room its ts s now w1 hbx hsh.map (ownsRow_base hsh.row (by simp)) hsh.ne hsh.ns hsh.nm hv (by omega) (by omega) (by have := N7.lt; omega) (fun W h => HE.out.below (B1.trans (h.mono (by omega)))))
  have HVAL := hid hv
  have HSVS : Hid (Saves wd room its ts s now) := ⟨hv, hsz, htm⟩
  have hs7 := N7.lt
  have hslt := hsh.box.lt
  have hn7 := hid N7
  have hb7 := hid B1
  clear hsh hb1 N7 B1 hrl hv hbx hTM htm
  go_wp2_with (go_at_call 40; refine (HTM.out _).mono ?_; rintro e w' ⟨rfl, rfl⟩)
  refine HUP.out.mono ?_
  rintro e w2 ⟨code, b, rfl, hss, hbl2, hz2, hok⟩
  have N2 := hn7.out.belowAt hbl2 (by omega)
  have B2 := hb7.out.trans (hbl2.mono (by omega))
  by_cases hc : code = 0
  case neg =>
    have HF : Hid (SaveR wd room its ts s now 0 0 [] [] code) := .inr ⟨HSVS.out, code, b, hss, rfl, .inl ⟨hc, rfl, rfl, rfl, rfl⟩⟩
    clear hok hss hbl2
    go_wp2_with fail
    refine (answer_no sb code _ hc).mono ?_
    rintro e w3 ⟨rfl, hb3⟩
    have N3 := N2.below hb3
    have B3 := B2.trans (hb3.mono B2.size)
    have s9 := N3.store4 (.int .i64 0) (.int .i64 0) (.slice none 0 0) (.slice none 0 0)
    have s0 := s9.a0; have s1 := s9.a1; have s2 := s9.a2; have s3 := s9.a3
    have k0 := s9.f0; have k1 := s9.f1; have k2 := s9.f2; have k3 := s9.f3
    have Z := hid s9.z
    have BB := hid ((((B3.setCell (p := ⟨w.heap.size + 1, 0, none⟩) (by simp) (.int .i64 0)).setCell (p := ⟨w.heap.size + 1, 1, none⟩) (by simp) (.int .i64 0)).setCell (p := ⟨w.heap.size + 1, 2, none⟩) (by simp) (.slice none 0 0)).setCell (p := ⟨w.heap.size + 1, 3, none⟩) (by simp) (.slice none 0 0))
    clear s9 N2 B2 N3 B3 hb3
    go_wp2
    refine bodyPost_ret (v := .tuple #[.agg #[.int .i64 0, .int .i64 0, .slice none 0 0, .slice none 0 0], .int .i64 code]) (by simp [results, Tryz.results13, go_sem, Z.out.cell]) rfl ⟨0, 0, [], [], code, _, _, rfl, HF.out, StoreOwn.none _ _, BB.out⟩
  subst hc
  obtain ⟨a2, c2, X2, M2, R2⟩ := hok rfl
  have hvb := hss.valid HVAL.out
  have hwd := of_decide_eq_true hvb.width
  have hAA := ascI_of hvb.each
  have HAN := hid (answer_yes sb mb b.length (.slice a2 (addT (nameB s wd) ts).length c2) wd room _ b (addT (nameB s wd) ts) (mapI wd b b.length) w2 X2 M2 (mapI_tidy wd b b.length) hAA.lt (fun x => (mapI_all wd b x).symm) (fun j hj z => mapI_at wd b hAA.lt z b.length (Nat.le_refl _) j hj) R2 (by have := hvb.items; omega) (by have := hvb.pins; omega) (fun i => pin_small hvb.sums hwd.2 i) (fun i => item_small hvb.each i))
  have HF : Hid (SaveR wd room its ts s now wd room b (addT (nameB s wd) ts) 0) := .inr ⟨HSVS.out, 0, b, hss, rfl, .inr ⟨rfl, rfl, rfl, rfl, rfl⟩⟩
  have hn2 := hid N2
  have hb2 := hid B2
  have hs2 := N2.lt
  clear X2 M2 R2 hbl2 N2 B2 hAA hvb hwd hok hss
  generalize addT (nameB s wd) ts = ts1 at *
  go_wp2_with fail
  refine HAN.out.mono ?_
  rintro e w3 ⟨v3, p3, rfl, so3, hb3⟩
  obtain ⟨a8, c8, rfl⟩ := row_any so3.items
  obtain ⟨b8, d8, rfl⟩ := row_any so3.pins
  have N3 := hn2.out.below hb3
  have B3 := hb2.out.trans (hb3.mono hb2.out.size)
  have s9 := N3.store4 (.int .i64 wd) (.int .i64 room) (.slice a8 b.length c8) (.slice b8 ts1.length d8)
  have s0 := s9.a0; have s1 := s9.a1; have s2 := s9.a2; have s3 := s9.a3
  have k0 := s9.f0; have k1 := s9.f1; have k2 := s9.f2; have k3 := s9.f3
  have Z := hid s9.z
  have BB := hid ((((B3.setCell (p := ⟨w.heap.size + 1, 0, none⟩) (by simp) (.int .i64 wd)).setCell (p := ⟨w.heap.size + 1, 1, none⟩) (by simp) (.int .i64 room)).setCell (p := ⟨w.heap.size + 1, 2, none⟩) (by simp) (.slice a8 b.length c8)).setCell (p := ⟨w.heap.size + 1, 3, none⟩) (by simp) (.slice b8 ts1.length d8))
  clear s9
  have GG := fun (x : World) (j : Nat) (y : Value) => grownBy_setCellAt x (w.heap.size + 1) j y
  have SO4 := hid ((((so3.kept (GG _ 0 (.int .i64 wd)) (by omega)).kept (GG _ 1 (.int .i64 room)) (by omega)).kept (GG _ 2 (.slice a8 b.length c8)) (by omega)).kept (GG _ 3 (.slice b8 ts1.length d8)) (by omega))
  clear GG so3 hb3 N3 B3
  go_wp2
  refine bodyPost_ret (v := .tuple #[.agg #[.int .i64 wd, .int .i64 room, .slice a8 b.length c8, .slice b8 ts1.length d8], .int .i64 0]) (by simp [results, Tryz.results13, go_sem, Z.out.cell]) rfl ⟨wd, room, b, ts1, 0, _, _, rfl, HF.out, SO4.out.base (by omega), BB.out⟩
end Go.Proofs.YtffpdgpcjgfgcaaGreatDoor
