/- impl.Pin. -/
import Derived.Test.YtmcipciimnncmaaUnpinImpl
import Derived.Test.YtmcipciimnncmaaShelfPin
namespace Go.Proofs.Ytmcipciimnncmaa
open Go.RowKit
theorem addT_mem {name : ByteArray} {ts : List ByteArray} {x : ByteArray} (h : x ∈ addT name ts) : x = name ∨ x ∈ ts := by
  unfold addT at h
  split at h
  · exact .inr h
  · rcases List.mem_append.1 h with h | h
    · exact .inr (List.mem_of_mem_take h)
    · rcases List.mem_cons.1 h with h | h
      · exact .inl h
      · exact .inr (List.mem_of_mem_drop h)
theorem addT_size {name : ByteArray} {ts : List ByteArray} {n : Nat} (hn : name.size ≤ n) (h : ∀ i, (tv ts i).size ≤ n) (i : Nat) : (tv (addT name ts) i).size ≤ n := by
  by_cases hi : i < (addT name ts).length
  · have hm : tv (addT name ts) i ∈ addT name ts := by simp [tv, hi]
    rcases addT_mem hm with e | e
    · rw [e]; exact hn
    · obtain ⟨k, hk, he⟩ := List.getElem_of_mem e
      have := h k
      rw [show tv ts k = tv (addT name ts) i by rw [← he]; simp [tv, hk]] at this
      exact this
  · have : tv (addT name ts) i = ByteArray.empty := by simp only [tv]; rw [List.getD_eq_getElem?_getD, List.getElem?_eq_none (by omega)]; rfl
    rw [this]; simp
set_option maxRecDepth 100000 in
set_option maxHeartbeats 2000000 in
theorem implPin_any (wd room : Int) (vi vp : Value) (its : Itms) (ts : List ByteArray) (name : ByteArray) (w : World) (hi : RdI w vi its) (hp : Reads w vp ts) (hli : its.length ≤ 1048576) (hlp : ts.length ≤ 1048576) (hsi : ∀ i, (itx its i).size ≤ 1048576) (hsp : ∀ i, (tv ts i).size ≤ 1048576) :
    Calls Try.prog 20 #[.agg #[.int .i64 wd, .int .i64 room, vi, vp], .string name] w fun e w' => ∃ wd' room' its' ts' code vi' vp', e = .returned (.tuple #[.agg #[.int .i64 wd', .int .i64 room', vi', vp'], .int .i64 code]) ∧ PinR wd room its ts name wd' room' its' ts' code ∧ StoreOwn w' (w.heap.size + 2) vi' vp' its' ts' ∧ Below w.heap.size w w' := by
  obtain ⟨ai, ci, rfl, hci⟩ := hi
  obtain ⟨ap, cp, rfl, _⟩ := hp.form
  have hi : RdI w (.slice ai its.length ci) its := ⟨ai, ci, rfl, hci⟩
  have hA := ((Below.refl w.heap.size w).alloc (Nat.le_refl _) (.cells #[.int .i64 wd, .int .i64 room, .slice ai its.length ci, .slice ap ts.length cp] 30)).alloc (by simp) (.cells #[.int .i64 0, .int .i64 0, .slice none 0 0, .slice none 0 0] 30)
  have hN7 := Blk.new (w.alloc (.cells #[.int .i64 wd, .int .i64 room, .slice ai its.length ci, .slice ap ts.length cp] 30)) 30 #[.int .i64 0, .int .i64 0, .slice none 0 0, .slice none 0 0]
  rw [World.size_alloc] at hN7
  have HN7 := hid hN7
  have HO := hid (openStore_any wd room _ _ its ts _ (hi.below hA) (hp.below hA) hli hlp hsi hsp)
  have HA := hid hA
  have HSI := hid hsi
  have HSP := hid hsp
  clear hi hp hA hN7 hsi hsp hci
  go_enter Try.func20, Try.ntmps20
  go_wp2_with fail
  refine HO.out.mono ?_
  rintro e w1 (⟨hn, rfl, hb1⟩ | ⟨hv, sb, mb, vc, rfl, hsh, hb1⟩)
  · have N7 := HN7.out.below hb1
    have B1 := HA.out.trans (hb1.mono (by simp; omega))
    have HF : Hid (PinR wd room its ts name 0 0 [] [] 1) := .inl ⟨fun h => hn h.1, rfl, rfl, rfl, rfl, rfl⟩
    have s9 := N7.store4 (.int .i64 0) (.int .i64 0) (.slice none 0 0) (.slice none 0 0)
    have s0 := s9.a0; have s1 := s9.a1; have s2 := s9.a2; have s3 := s9.a3
    have k0 := s9.f0; have k1 := s9.f1; have k2 := s9.f2; have k3 := s9.f3
    have Z := hid s9.z
    have BB := hid ((((B1.setCell (p := ⟨w.heap.size + 1, 0, none⟩) (by simp) (.int .i64 0)).setCell (p := ⟨w.heap.size + 1, 1, none⟩) (by simp) (.int .i64 0)).setCell (p := ⟨w.heap.size + 1, 2, none⟩) (by simp) (.slice none 0 0)).setCell (p := ⟨w.heap.size + 1, 3, none⟩) (by simp) (.slice none 0 0))
    clear s9
    clear N7 B1 hn hb1
    go_wp2
    refine bodyPost_ret (v := .tuple #[.agg #[.int .i64 0, .int .i64 0, .slice none 0 0, .slice none 0 0], .int .i64 1]) (by simp [results, Try.results20, go_sem, Z.out.cell]) rfl ⟨0, 0, [], [], 1, _, _, rfl, HF.out, StoreOwn.none _ _, BB.out⟩
  have N7 := HN7.out.below hb1
  have B1 := HA.out.trans (hb1.mono (by simp; omega))
  have hsbl := hsh.hs
  have hmbl := hsh.hm
  simp only [World.size_alloc] at hsbl hmbl
  have hrl : ∀ g, vc.ownBlock = some g → w.heap.size + 1 + 1 ≤ g := fun g e => by have := (hsh.row.lt g e).1; simpa using this
  have HUP := hid (pin_any sb mb its.length _ (mapI wd its its.length) wd room _ vc ts name w1 hsh.box hsh.map hsh.row hsh.ne hsh.ns hsh.nm (okSums_asc hv.sums) hv.pins)
  have HVAL := hid hv
  have hs7 := N7.lt
  have hslt := hsh.box.lt
  have hn7 := hid N7
  have hb7 := hid B1
  have HRL := hid hrl
  clear hsh hb1 N7 B1 hrl hv
  go_wp2_with fail
  refine HUP.out.mono ?_
  rintro e w2 (⟨rfl, hsz, hb2⟩ | ⟨rfl, hsz, hno, hb2⟩ | ⟨rfl, hsz, hle, vc', hbox, hrd, hmap, hgr, hbel⟩)
  · have HF : Hid (PinR wd room its ts name 0 0 [] [] 1) := .inl ⟨fun h => hsz h.2, rfl, rfl, rfl, rfl, rfl⟩
    have N2 := hn7.out.below hb2
    have B2 := hb7.out.trans (hb2.mono hb7.out.size)
    go_wp2_with fail
    refine (answer_no sb 1 _ (by decide)).mono ?_
    rintro e w3 ⟨rfl, hb3⟩
    have N3 := N2.below hb3
    have B3 := B2.trans (hb3.mono B2.size)
    have s9 := N3.store4 (.int .i64 0) (.int .i64 0) (.slice none 0 0) (.slice none 0 0)
    have s0 := s9.a0; have s1 := s9.a1; have s2 := s9.a2; have s3 := s9.a3
    have k0 := s9.f0; have k1 := s9.f1; have k2 := s9.f2; have k3 := s9.f3
    have Z := hid s9.z
    have BB := hid ((((B3.setCell (p := ⟨w.heap.size + 1, 0, none⟩) (by simp) (.int .i64 0)).setCell (p := ⟨w.heap.size + 1, 1, none⟩) (by simp) (.int .i64 0)).setCell (p := ⟨w.heap.size + 1, 2, none⟩) (by simp) (.slice none 0 0)).setCell (p := ⟨w.heap.size + 1, 3, none⟩) (by simp) (.slice none 0 0))
    clear s9
    clear N2 B2 N3 B3 hb2 hb3 hsz
    go_wp2
    refine bodyPost_ret (v := .tuple #[.agg #[.int .i64 0, .int .i64 0, .slice none 0 0, .slice none 0 0], .int .i64 1]) (by simp [results, Try.results20, go_sem, Z.out.cell]) rfl ⟨0, 0, [], [], 1, _, _, rfl, HF.out, StoreOwn.none _ _, BB.out⟩
  · have HF : Hid (PinR wd room its ts name 0 0 [] [] 2) := .inr (.inl ⟨⟨HVAL.out, hsz⟩, hno, rfl, rfl, rfl, rfl, rfl⟩)
    have N2 := hn7.out.below hb2
    have B2 := hb7.out.trans (hb2.mono hb7.out.size)
    go_wp2_with fail
    refine (answer_no sb 2 _ (by decide)).mono ?_
    rintro e w3 ⟨rfl, hb3⟩
    have N3 := N2.below hb3
    have B3 := B2.trans (hb3.mono B2.size)
    have s9 := N3.store4 (.int .i64 0) (.int .i64 0) (.slice none 0 0) (.slice none 0 0)
    have s0 := s9.a0; have s1 := s9.a1; have s2 := s9.a2; have s3 := s9.a3
    have k0 := s9.f0; have k1 := s9.f1; have k2 := s9.f2; have k3 := s9.f3
    have Z := hid s9.z
    have BB := hid ((((B3.setCell (p := ⟨w.heap.size + 1, 0, none⟩) (by simp) (.int .i64 0)).setCell (p := ⟨w.heap.size + 1, 1, none⟩) (by simp) (.int .i64 0)).setCell (p := ⟨w.heap.size + 1, 2, none⟩) (by simp) (.slice none 0 0)).setCell (p := ⟨w.heap.size + 1, 3, none⟩) (by simp) (.slice none 0 0))
    clear s9
    clear N2 B2 N3 B3 hb2 hb3 hsz hno
    go_wp2
    refine bodyPost_ret (v := .tuple #[.agg #[.int .i64 0, .int .i64 0, .slice none 0 0, .slice none 0 0], .int .i64 2]) (by simp [results, Try.results20, go_sem, Z.out.cell]) rfl ⟨0, 0, [], [], 2, _, _, rfl, HF.out, StoreOwn.none _ _, BB.out⟩
  · have hasc := sums_asc HVAL.out.each
    have hhas := fun x => (mapI_has wd its x its.length (Nat.le_refl _))
    rw [List.take_of_length_le (by rw [sumsL_len]; exact Nat.le_refl _)] at hhas
    have bel2 := hbel (w.heap.size + 2) (by omega) (fun g e => HRL.out g e) (by omega)
    have N2 := hn7.out.belowAt bel2 (by omega)
    have B2 := hb7.out.trans (bel2.mono (by omega))
    have hnsz : name.size ≤ 1048576 := by have h1 := of_decide_eq_true HVAL.out.width; omega
    have HAN := hid (answer_yes sb mb its.length vc' wd room _ its (addT name ts) (mapI wd its its.length) w2 hbox hmap (mapI_tidy wd its its.length) hasc (fun x => (hhas x).symm) (fun j hj z => mapI_at wd its hasc z its.length (Nat.le_refl _) j hj) hrd hli (by omega) (addT_size hnsz HSP.out) HSI.out)
    have HF : Hid (PinR wd room its ts name wd room its (addT name ts) 0) := .inr (.inr ⟨⟨HVAL.out, hsz⟩, hle, rfl, rfl, rfl, rfl, rfl⟩)
    have hn2 := hid N2
    have hb2 := hid B2
    have hs2 := N2.lt
    clear hbox hrd hmap hgr hbel bel2 N2 B2 hhas hasc hle hnsz
    generalize addT name ts = ts9 at *
    go_wp2_with fail
    refine HAN.out.mono ?_
    rintro e w3 ⟨v3, p3, rfl, so3, hb3⟩
    obtain ⟨a8, c8, rfl⟩ := row_any so3.items
    obtain ⟨b8, d8, rfl⟩ := row_any so3.pins
    have N3 := hn2.out.below hb3
    have B3 := hb2.out.trans (hb3.mono hb2.out.size)
    have s9 := N3.store4 (.int .i64 wd) (.int .i64 room) (.slice a8 its.length c8) (.slice b8 ts9.length d8)
    have s0 := s9.a0; have s1 := s9.a1; have s2 := s9.a2; have s3 := s9.a3
    have k0 := s9.f0; have k1 := s9.f1; have k2 := s9.f2; have k3 := s9.f3
    have Z := hid s9.z
    have BB := hid ((((B3.setCell (p := ⟨w.heap.size + 1, 0, none⟩) (by simp) (.int .i64 wd)).setCell (p := ⟨w.heap.size + 1, 1, none⟩) (by simp) (.int .i64 room)).setCell (p := ⟨w.heap.size + 1, 2, none⟩) (by simp) (.slice a8 its.length c8)).setCell (p := ⟨w.heap.size + 1, 3, none⟩) (by simp) (.slice b8 ts9.length d8))
    clear s9
    have GG := fun (x : World) (j : Nat) (y : Value) => grownBy_setCellAt x (w.heap.size + 1) j y
    have SO4 := hid ((((so3.kept (GG _ 0 (.int .i64 wd)) (by omega)).kept (GG _ 1 (.int .i64 room)) (by omega)).kept (GG _ 2 (.slice a8 its.length c8)) (by omega)).kept (GG _ 3 (.slice b8 ts9.length d8)) (by omega))
    clear GG so3 hb3 N3 B3
    go_wp2
    refine bodyPost_ret (v := .tuple #[.agg #[.int .i64 wd, .int .i64 room, .slice a8 its.length c8, .slice b8 ts9.length d8], .int .i64 0]) (by simp [results, Try.results20, go_sem, Z.out.cell]) rfl ⟨wd, room, its, ts9, 0, _, _, rfl, HF.out, SO4.out.base (by omega), BB.out⟩
end Go.Proofs.Ytmcipciimnncmaa
