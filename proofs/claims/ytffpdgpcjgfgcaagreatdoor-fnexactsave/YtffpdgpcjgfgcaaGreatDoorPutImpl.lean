/- impl.Put. -/
import Derived.Test.YtffpdgpcjgfgcaaGreatDoorShelfPut
import Derived.Test.YtffpdgpcjgfgcaaGreatDoorUnpinSpec
namespace Go.Proofs.YtffpdgpcjgfgcaaGreatDoor
open Go.RowKit
/-- What Put answers. -/
def PutR (wd room : Int) (its : Itms) (ts : List ByteArray) (t : ByteArray) (now : Int) (wd' room' : Int) (its' : Itms) (ts' : List ByteArray) (code : Int) : Prop :=
  (¬ (ValidSt wd room its ts ∧ Puts t now) ∧ wd' = 0 ∧ room' = 0 ∧ its' = [] ∧ ts' = [] ∧ code = 1) ∨
  ((ValidSt wd room its ts ∧ Puts t now) ∧ ∃ c a, PutI wd room (NeedTo wd its ts ts.length) its t now c a ∧ code = c ∧ ((c ≠ 0 ∧ wd' = 0 ∧ room' = 0 ∧ its' = [] ∧ ts' = []) ∨ (c = 0 ∧ wd' = wd ∧ room' = room ∧ its' = a ∧ ts' = ts)))
theorem PutI.mem {wd room : Int} {Q : ByteArray → Prop} {its : Itms} {t : ByteArray} {now c : Int} {a : Itms} (h : PutI wd room Q its t now c a) : ∀ p, p ∈ a → p = (t, now) ∨ p ∈ its := by
  cases h with
  | there i hi hs ht => exact fun p hp => (List.mem_or_eq_of_mem_set hp).symm
  | other => exact fun p hp => .inr hp
  | put k b hn hw => exact fun p hp => ((ins_mem wd b t now p).1 hp).imp id (fun h => hw.sub.subset h)
  | full => exact fun p hp => .inr hp
theorem PutI.len {wd room : Int} {Q : ByteArray → Prop} {its : Itms} {t : ByteArray} {now c : Int} {a : Itms} (h : PutI wd room Q its t now c a) : a.length ≤ its.length + 1 := by
  cases h with
  | there i hi hs ht => rw [List.length_set]; omega
  | other => omega
  | put k b hn hw => rw [ins_len]; have := hw.len; omega
  | full => omega
theorem PutI.size {wd room : Int} {Q : ByteArray → Prop} {its : Itms} {t : ByteArray} {now c : Int} {a : Itms} (h : PutI wd room Q its t now c a) {n : Nat} (ht : t.size ≤ n) (hs : ∀ i, (itx its i).size ≤ n) (i : Nat) : (itx a i).size ≤ n := by
  by_cases hi : i < a.length
  · rw [itx_get a i hi]
    rcases h.mem _ (List.getElem_mem hi) with e | e
    · rw [e]; exact ht
    · obtain ⟨j, hj, he⟩ := List.getElem_of_mem e
      have := hs j
      rw [itx_get its j hj, he] at this
      exact this
  · unfold itx
    rw [List.getD_eq_getElem?_getD, List.getElem?_eq_none (by omega)]
    show (0 : Nat) ≤ n
    omega
theorem PutI.asc {wd room : Int} {Q : ByteArray → Prop} {its : Itms} {t : ByteArray} {now c : Int} {a : Itms} (h : PutI wd room Q its t now c a) (hA : AscI wd its) : AscI wd a := by
  cases h with
  | there i hi hs ht => unfold AscI; rw [set_map wd its i t now hi ht]; exact hA
  | other => exact hA
  | put k b hn hw =>
    refine ins_asc (hA.sub hw.sub) fun p hp => ?_
    obtain ⟨i, hi, rfl⟩ := List.getElem_of_mem (hw.sub.subset hp)
    rw [← itx_get its i hi]
    exact hn i hi
  | full => exact hA
set_option maxRecDepth 100000 in
set_option maxHeartbeats 4000000 in
theorem implPut_any (wd room : Int) (vi vp : Value) (its : Itms) (ts : List ByteArray) (t : ByteArray) (now : Int) (w : World) (hi : RdI w vi its) (hp : Reads w vp ts) (hli : its.length ≤ 1048576) (hlp : ts.length ≤ 1048576) (hsi : ∀ i, (itx its i).size ≤ 1048576) (hsp : ∀ i, (tv ts i).size ≤ 1048576) (hts : t.size ≤ 1048576) (hE : Errs w) :
    Calls Tryz.prog 8 #[.agg #[.int .i64 wd, .int .i64 room, vi, vp], .string t, .int .i64 now] w fun e w' => ∃ wd' room' its' ts' code vi' vp', e = .returned (.tuple #[.agg #[.int .i64 wd', .int .i64 room', vi', vp'], .int .i64 code]) ∧ PutR wd room its ts t now wd' room' its' ts' code ∧ StoreOwn w' (w.heap.size + 2) vi' vp' its' ts' ∧ Below w.heap.size w w' := by
  obtain ⟨ai, ci, rfl, hci⟩ := hi
  obtain ⟨ap, cp, rfl, _⟩ := hp.form
  have hi : RdI w (.slice ai its.length ci) its := ⟨ai, ci, rfl, hci⟩
  have hA := ((Below.refl w.heap.size w).alloc (Nat.le_refl _) (.cells #[.int .i64 wd, .int .i64 room, .slice ai its.length ci, .slice ap ts.length cp] 29)).alloc (by simp) (.cells #[.int .i64 0, .int .i64 0, .slice none 0 0, .slice none 0 0] 29)
  have hN7 := Blk.new (w.alloc (.cells #[.int .i64 wd, .int .i64 room, .slice ai its.length ci, .slice ap ts.length cp] 29)) 29 #[.int .i64 0, .int .i64 0, .slice none 0 0, .slice none 0 0]
  rw [World.size_alloc] at hN7
  have HN7 := hid hN7
  have HO := hid (openStore_any wd room _ _ its ts _ (hi.below hA) (hp.below hA) hli hlp hsi hsp)
  have HA := hid hA
  have HSI := hid hsi
  have HSP := hid hsp
  have HE := hid hE
  clear hi hp hA hN7 hsi hsp hci hE
  go_enter Tryz.func8, Tryz.ntmps8
  go_wp2_with fail
  refine HO.out.mono ?_
  rintro e w1 (⟨hn, rfl, hb1⟩ | ⟨hv, sb, mb, vc, rfl, hsh, hb1⟩)
  · have N7 := HN7.out.below hb1
    have B1 := HA.out.trans (hb1.mono (by simp; omega))
    have HF : Hid (PutR wd room its ts t now 0 0 [] [] 1) := .inl ⟨fun h => hn h.1, rfl, rfl, rfl, rfl, rfl⟩
    have s9 := N7.store4 (.int .i64 0) (.int .i64 0) (.slice none 0 0) (.slice none 0 0)
    have s0 := s9.a0; have s1 := s9.a1; have s2 := s9.a2; have s3 := s9.a3
    have k0 := s9.f0; have k1 := s9.f1; have k2 := s9.f2; have k3 := s9.f3
    have Z := hid s9.z
    have BB := hid ((((B1.setCell (p := ⟨w.heap.size + 1, 0, none⟩) (by simp) (.int .i64 0)).setCell (p := ⟨w.heap.size + 1, 1, none⟩) (by simp) (.int .i64 0)).setCell (p := ⟨w.heap.size + 1, 2, none⟩) (by simp) (.slice none 0 0)).setCell (p := ⟨w.heap.size + 1, 3, none⟩) (by simp) (.slice none 0 0))
    clear s9
    clear N7 B1 hn hb1
    go_wp2
    refine bodyPost_ret (v := .tuple #[.agg #[.int .i64 0, .int .i64 0, .slice none 0 0, .slice none 0 0], .int .i64 1]) (by simp [results, Tryz.results8, go_sem, Z.out.cell]) rfl ⟨0, 0, [], [], 1, _, _, rfl, HF.out, StoreOwn.none _ _, BB.out⟩
  have N7 := HN7.out.below hb1
  have B1 := HA.out.trans (hb1.mono (by simp; omega))
  have hsbl := hsh.hs
  have hmbl := hsh.hm
  simp only [World.size_alloc] at hsbl hmbl
  have hrl : ∀ g, vc.ownBlock = some g → w.heap.size + 1 + 1 ≤ g := fun g e => by have := (hsh.row.lt g e).1; simpa using this
  obtain ⟨ac, cc, rfl, _⟩ := row_form hsh.row
  have hbx := hsh.box
  rw [List.take_length] at hbx
  have hwd := of_decide_eq_true hv.width
  have HUP := hid (shelfPut_any sb mb ac cc wd room its ts t now w1 hbx hsh.map (Reads.of_row hsh.row) (ascI_of hv.each) hv.items hv.pins HSP.out HSI.out hwd.2 (HE.out.below B1) (by have h1 := hv.fits; have h2 := hv.room1; omega) hts hsh.ne)
  have HVAL := hid hv
  have hs7 := N7.lt
  have hslt := hsh.box.lt
  have hn7 := hid N7
  have hb7 := hid B1
  have HRW := hid hsh.row
  have hns := hsh.ns
  have hnm := hsh.nm
  clear hsh hb1 N7 B1 hrl hv hbx hwd
  go_wp2_with fail
  refine HUP.out.mono ?_
  rintro e w2 (⟨hnp, rfl, hb2⟩ | ⟨hpt, code, a, hpi, rfl, ⟨hc, hb2⟩ | ⟨rfl, X2, M2, hbt2⟩⟩)
  · have HF : Hid (PutR wd room its ts t now 0 0 [] [] 1) := .inl ⟨fun h => hnp h.2, rfl, rfl, rfl, rfl, rfl⟩
    have N2 := hn7.out.below hb2
    have B2 := hb7.out.trans (hb2.mono hb7.out.size)
    go_wp2_with fail
    refine (answer_no sb 1 _ (by decide)).mono ?_
    rintro e w3 ⟨rfl, hb3⟩
    have N3 := N2.below hb3
    have B3 := B2.trans (hb3.mono B2.size)
    have s9 := N3.store4 (.int .i64 0) (.int .i64 0) (.slice none 0 0) (.slice none 0 0)
    have s0 := s9.a0; have s1 := s9.a1; have s2 := s9.a2; have s3 := s9.a3
    have k0 := s9.f0; have k1 := s9.f1; have k2 := s9.f2; have k3 := s9.f3
    have Z := hid s9.z
    have BB := hid ((((B3.setCell (p := ⟨w.heap.size + 1, 0, none⟩) (by simp) (.int .i64 0)).setCell (p := ⟨w.heap.size + 1, 1, none⟩) (by simp) (.int .i64 0)).setCell (p := ⟨w.heap.size + 1, 2, none⟩) (by simp) (.slice none 0 0)).setCell (p := ⟨w.heap.size + 1, 3, none⟩) (by simp) (.slice none 0 0))
    clear s9
    clear N2 B2 N3 B3 hb2 hb3 hnp
    go_wp2
    refine bodyPost_ret (v := .tuple #[.agg #[.int .i64 0, .int .i64 0, .slice none 0 0, .slice none 0 0], .int .i64 1]) (by simp [results, Tryz.results8, go_sem, Z.out.cell]) rfl ⟨0, 0, [], [], 1, _, _, rfl, HF.out, StoreOwn.none _ _, BB.out⟩
  · have HF : Hid (PutR wd room its ts t now 0 0 [] [] code) := .inr ⟨⟨HVAL.out, hpt⟩, code, a, hpi, rfl, .inl ⟨hc, rfl, rfl, rfl, rfl⟩⟩
    have N2 := hn7.out.below hb2
    have B2 := hb7.out.trans (hb2.mono hb7.out.size)
    go_wp2_with fail
    refine (answer_no sb code _ hc).mono ?_
    rintro e w3 ⟨rfl, hb3⟩
    have N3 := N2.below hb3
    have B3 := B2.trans (hb3.mono B2.size)
    have s9 := N3.store4 (.int .i64 0) (.int .i64 0) (.slice none 0 0) (.slice none 0 0)
    have s0 := s9.a0; have s1 := s9.a1; have s2 := s9.a2; have s3 := s9.a3
    have k0 := s9.f0; have k1 := s9.f1; have k2 := s9.f2; have k3 := s9.f3
    have Z := hid s9.z
    have BB := hid ((((B3.setCell (p := ⟨w.heap.size + 1, 0, none⟩) (by simp) (.int .i64 0)).setCell (p := ⟨w.heap.size + 1, 1, none⟩) (by simp) (.int .i64 0)).setCell (p := ⟨w.heap.size + 1, 2, none⟩) (by simp) (.slice none 0 0)).setCell (p := ⟨w.heap.size + 1, 3, none⟩) (by simp) (.slice none 0 0))
    clear s9
    clear N2 B2 N3 B3 hb2 hb3 hpt hpi hc
    go_wp2
    refine bodyPost_ret (v := .tuple #[.agg #[.int .i64 0, .int .i64 0, .slice none 0 0, .slice none 0 0], .int .i64 code]) (by simp [results, Tryz.results8, go_sem, Z.out.cell]) rfl ⟨0, 0, [], [], code, _, _, rfl, HF.out, StoreOwn.none _ _, BB.out⟩
  · have hAA := hpi.asc (ascI_of HVAL.out.each)
    have hal := hpi.len
    have bel2 := hbt2.below (B := w.heap.size + 2) (by omega) (fun b h => h.elim (fun h => by omega) (fun h => by omega))
    have N2 := hn7.out.belowAt bel2 (by omega)
    have B2 := hb7.out.trans (bel2.mono (by omega))
    have R2 := hbt2.row HRW.out (fun g e h => h.elim (fun h => hns (by rw [e, h])) (fun h => hnm (by rw [e, h])))
    have HAN := hid (answer_yes sb mb a.length (.slice ac ts.length cc) wd room _ a ts (mapI wd a a.length) w2 X2 M2 (mapI_tidy wd a a.length) hAA.lt (fun x => (mapI_all wd a x).symm) (fun j hj z => mapI_at wd a hAA.lt z a.length (Nat.le_refl _) j hj) (Reads.of_row R2) (by have := HVAL.out.items; omega) hlp HSP.out (hpi.size hts HSI.out))
    have HF : Hid (PutR wd room its ts t now wd room a ts 0) := .inr ⟨⟨HVAL.out, hpt⟩, 0, a, hpi, rfl, .inr ⟨rfl, rfl, rfl, rfl, rfl⟩⟩
    have hn2 := hid N2
    have hb2 := hid B2
    have hs2 := N2.lt
    clear X2 M2 hbt2 bel2 N2 B2 R2 hAA hpi hpt hal
    go_wp2_with fail
    refine HAN.out.mono ?_
    rintro e w3 ⟨v3, p3, rfl, so3, hb3⟩
    obtain ⟨a8, c8, rfl⟩ := row_any so3.items
    obtain ⟨b8, d8, rfl⟩ := row_any so3.pins
    have N3 := hn2.out.below hb3
    have B3 := hb2.out.trans (hb3.mono hb2.out.size)
    have s9 := N3.store4 (.int .i64 wd) (.int .i64 room) (.slice a8 a.length c8) (.slice b8 ts.length d8)
    have s0 := s9.a0; have s1 := s9.a1; have s2 := s9.a2; have s3 := s9.a3
    have k0 := s9.f0; have k1 := s9.f1; have k2 := s9.f2; have k3 := s9.f3
    have Z := hid s9.z
    have BB := hid ((((B3.setCell (p := ⟨w.heap.size + 1, 0, none⟩) (by simp) (.int .i64 wd)).setCell (p := ⟨w.heap.size + 1, 1, none⟩) (by simp) (.int .i64 room)).setCell (p := ⟨w.heap.size + 1, 2, none⟩) (by simp) (.slice a8 a.length c8)).setCell (p := ⟨w.heap.size + 1, 3, none⟩) (by simp) (.slice b8 ts.length d8))
    clear s9
    have GG := fun (x : World) (j : Nat) (y : Value) => grownBy_setCellAt x (w.heap.size + 1) j y
    have SO4 := hid ((((so3.kept (GG _ 0 (.int .i64 wd)) (by omega)).kept (GG _ 1 (.int .i64 room)) (by omega)).kept (GG _ 2 (.slice a8 a.length c8)) (by omega)).kept (GG _ 3 (.slice b8 ts.length d8)) (by omega))
    clear GG so3 hb3 N3 B3
    go_wp2
    refine bodyPost_ret (v := .tuple #[.agg #[.int .i64 wd, .int .i64 room, .slice a8 a.length c8, .slice b8 ts.length d8], .int .i64 0]) (by simp [results, Tryz.results8, go_sem, Z.out.cell]) rfl ⟨wd, room, a, ts, 0, _, _, rfl, HF.out, SO4.out.base (by omega), BB.out⟩
end Go.Proofs.YtffpdgpcjgfgcaaGreatDoor
