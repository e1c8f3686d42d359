/- spec.Get: looked for. -/
import Derived.Test.YtmcipciimnncmaaStoreCopy
namespace Go.Proofs.Ytmcipciimnncmaa
open Go.RowKit
/-- A store in rows of its own. -/
structure StoreOwn (w : World) (B : Nat) (vi vp : Value) (its : Itms) (ts : List ByteArray) : Prop where
  items : w.ownsRow B 52 2 vi its.length (cellsI its)
  pins : w.ownsRow B 9 1 vp ts.length (ts.map Value.string)
  apart : ∀ g, vi.ownBlock = some g → vp.ownBlock ≠ some g
theorem StoreOwn.none (w : World) (B : Nat) : StoreOwn w B (.slice .none 0 0) (.slice .none 0 0) [] [] := ⟨World.ownsRow_nil _ _ _ _, World.ownsRow_nil _ _ _ _, fun g e => by simp [Value.ownBlock] at e⟩
theorem StoreOwn.below {w w' : World} {B : Nat} {vi vp : Value} {its : Itms} {ts : List ByteArray} (h : StoreOwn w B vi vp its ts) (hb : Below w.heap.size w w') : StoreOwn w' B vi vp its ts :=
  ⟨h.items.kept (grown_of_below hb) (by cases hv : vi.ownBlock <;> simp), Below.row hb h.pins, h.apart⟩
theorem StoreOwn.base {w : World} {B B' : Nat} {vi vp : Value} {its : Itms} {ts : List ByteArray} (h : StoreOwn w B vi vp its ts) (hb : B' ≤ B) : StoreOwn w B' vi vp its ts := ⟨ownsRow_base2 h.items hb, ownsRow_base2 h.pins hb, h.apart⟩
theorem StoreOwn.kept {w w' : World} {B k : Nat} {vi vp : Value} {its : Itms} {ts : List ByteArray} (h : StoreOwn w B vi vp its ts) (hg : w.grownBy w' (some k)) (hk : k < B) : StoreOwn w' B vi vp its ts :=
  ⟨h.items.kept hg (.inr fun e => by have := (h.items.lt _ e).1; omega), h.pins.kept hg (.inr fun e => by have := (h.pins.lt _ e).1; omega), h.apart⟩
theorem StoreOwn.rdi {w : World} {B : Nat} {vi vp : Value} {its : Itms} {ts : List ByteArray} (h : StoreOwn w B vi vp its ts) : RdI w vi its := by
  have hr := h.items
  rcases h.items with ⟨_, ⟨rfl, h0⟩ | ⟨g, cap, cur, rfl, hb, hg, _⟩⟩
  · have : its = [] := List.eq_nil_of_length_eq_zero h0
    subst this
    exact ⟨_, 0, rfl, fun i hi => absurd hi (by simp)⟩
  · refine ⟨_, cap, rfl, fun i hi => ⟨g, 0, rfl, (Array.getElem?_eq_some_iff.1 hg).1, ?_, ?_⟩⟩
    · rw [Nat.zero_add, hr.cellAt _ (by omega)]; exact (cellsI_at its i hi).1
    · rw [Nat.zero_add, hr.cellAt _ (by omega)]; exact (cellsI_at its i hi).2
/-- What Get answers. -/
def GetOk (wd room : Int) (its : Itms) (ts : List ByteArray) (s : ByteArray) (now : Int) : Prop := ValidSt wd room its ts ∧ (0 ≤ now ∧ now ≤ 1000000) ∧ ∃ i, i < its.length ∧ sumX wd (itx its i) = s
def GetR (wd room : Int) (its : Itms) (ts : List ByteArray) (s : ByteArray) (now : Int) (x : ByteArray) (wd' room' : Int) (its' : Itms) (ts' : List ByteArray) (b : Bool) : Prop :=
  (x = ⟨#[]⟩ ∧ wd' = 0 ∧ room' = 0 ∧ its' = [] ∧ ts' = [] ∧ b = false ∧ ¬ GetOk wd room its ts s now) ∨
  (b = true ∧ wd' = wd ∧ room' = room ∧ ts' = ts ∧ GetOk wd room its ts s now ∧ ∃ i, i < its.length ∧ sumX wd (itx its i) = s ∧ x = itx its i ∧ its' = its.set i (itx its i, now))
theorem cell_drew (X : World) (p : Addr) : X.drew.cell? p = X.cell? p := rfl
theorem cellsI_set (its : Itms) (i : Nat) (now : Int) (h : i < its.length) : (cellsI its).set (i * 2 + 1) (.int .i64 now) = cellsI (its.set i (itx its i, now)) := by
  induction its generalizing i with
  | nil => simp at h
  | cons p r ih =>
    cases i with
    | zero => simp [cellsI, itx]
    | succ i =>
      have := ih i (by simpa using h)
      have e : (i + 1) * 2 + 1 = i * 2 + 1 + 1 + 1 := by omega
      rw [e]
      simpa [cellsI, itx] using this
set_option maxRecDepth 100000 in
set_option maxHeartbeats 2000000 in
theorem specGet_any (wd room : Int) (vi vp : Value) (its : Itms) (ts : List ByteArray) (s : ByteArray) (now : Int) (w : World) (b1 b2 : Nat) (hi : OwnI w b1 vi its) (hp : w.ownsRow b2 9 1 vp ts.length (ts.map Value.string)) (hli : its.length ≤ 1048576) (hlp : ts.length ≤ 1048576) (hsi : ∀ i, (itx its i).size ≤ 1048576) (hsp : ∀ i, (tv ts i).size ≤ 1048576) :
    Calls Try.prog 17 #[.agg #[.int .i64 wd, .int .i64 room, vi, vp], .string s, .int .i64 now] w fun e w' => ∃ x wd' room' its' ts' b vi' vp', e = .returned (.tuple #[.string x, .agg #[.int .i64 wd', .int .i64 room', vi', vp'], .bool b]) ∧ GetR wd room its ts s now x wd' room' its' ts' b ∧ StoreOwn w' (w.heap.size + 2) vi' vp' its' ts' ∧ Below w.heap.size w w' := by
  obtain ⟨ai, ci, hvi⟩ : ∃ ai ci, vi = .slice ai its.length ci := by obtain ⟨g, e, _⟩ := hi; exact ⟨_, _, e⟩
  subst hvi
  obtain ⟨ap, cp, rfl, _⟩ := row_form hp
  have hA := ((Below.refl w.heap.size w).alloc (Nat.le_refl _) (.cells #[.int .i64 wd, .int .i64 room, .slice ai its.length ci, .slice ap ts.length cp] 30)).alloc (by simp) (.cells #[.int .i64 0, .int .i64 0, .slice none 0 0, .slice none 0 0] 30)
  have HN := hid ((Blk.new w 30 #[.int .i64 wd, .int .i64 room, .slice ai its.length ci, .slice ap ts.length cp]).alloc (.cells #[.int .i64 0, .int .i64 0, .slice none 0 0, .slice none 0 0] 30))
  have hN7 := Blk.new (w.alloc (.cells #[.int .i64 wd, .int .i64 room, .slice ai its.length ci, .slice ap ts.length cp] 30)) 30 #[.int .i64 0, .int .i64 0, .slice none 0 0, .slice none 0 0]
  rw [World.size_alloc] at hN7
  have HN7 := hid hN7
  have HV := hid (specValidStore_any wd room _ _ its ts _ ((hi.below hA).rdi) (Reads.of_row (Below.row hA hp)) hli hlp hsi hsp)
  have HI := hid hi
  have HP := hid hp
  have HA := hid hA
  have HAT := hid fun W h => l4At_any wd room (.slice ai its.length ci) (.slice ap ts.length cp) its s W h ⟨_, _, _, rfl⟩ hli hsi
  have HCP := hid fun W a b => l4Copy_any wd room (.slice ai its.length ci) (.slice ap ts.length cp) its ts W b1 b2 a b hli hlp
  clear hi hp hA hN7 hsi hsp
  go_enter Try.func17, Try.ntmps17
  go_wp2_with fail
  refine HV.out.mono ?_
  rintro e w1 ⟨b, rfl, hb, hb1⟩
  have N1 := HN.out.below hb1
  have N7 := HN7.out.below hb1
  have B1 := HA.out.trans (hb1.mono (by simp; omega))
  clear hb1
  cases b with
  | false =>
    have HF : Hid (¬ GetOk wd room its ts s now) := fun h => by have := hb.2 h.1; cases this
    have s := N7.store4 (.int .i64 0) (.int .i64 0) (.slice none 0 0) (.slice none 0 0)
    have s0 := s.a0; have s1 := s.a1; have s2 := s.a2; have s3 := s.a3
    have k0 := s.f0; have k1 := s.f1; have k2 := s.f2; have k3 := s.f3
    have Z := hid s.z
    have BB := hid ((((B1.setCell (p := ⟨w.heap.size + 1, 0, none⟩) (by simp) (.int .i64 0)).setCell (p := ⟨w.heap.size + 1, 1, none⟩) (by simp) (.int .i64 0)).setCell (p := ⟨w.heap.size + 1, 2, none⟩) (by simp) (.slice none 0 0)).setCell (p := ⟨w.heap.size + 1, 3, none⟩) (by simp) (.slice none 0 0))
    clear s N1 N7 B1 hb
    go_wp2
    refine bodyPost_ret (v := .tuple #[.string ⟨#[]⟩, .agg #[.int .i64 0, .int .i64 0, .slice none 0 0, .slice none 0 0], .bool false]) (by simp [results, Try.results17, go_sem, Z.out.cell]) rfl ⟨_, 0, 0, [], [], false, _, _, rfl, .inl ⟨rfl, rfl, rfl, rfl, rfl, rfl, HF.out⟩, StoreOwn.none _ _, BB.out⟩
  | true =>
  have HVAL := hid (hb.1 rfl)
  clear hb
  by_cases ht : 0 ≤ now ∧ now ≤ 1000000
  case neg =>
    have HF : Hid (¬ GetOk wd room its ts s now) := fun h => ht h.2.1
    have HL := hid fun W => l1In_no now 0 1000000 W ht
    have s := N7.store4 (.int .i64 0) (.int .i64 0) (.slice none 0 0) (.slice none 0 0)
    have s0 := s.a0; have s1 := s.a1; have s2 := s.a2; have s3 := s.a3
    have k0 := s.f0; have k1 := s.f1; have k2 := s.f2; have k3 := s.f3
    have Z := hid s.z
    have BB := hid ((((B1.setCell (p := ⟨w.heap.size + 1, 0, none⟩) (by simp) (.int .i64 0)).setCell (p := ⟨w.heap.size + 1, 1, none⟩) (by simp) (.int .i64 0)).setCell (p := ⟨w.heap.size + 1, 2, none⟩) (by simp) (.slice none 0 0)).setCell (p := ⟨w.heap.size + 1, 3, none⟩) (by simp) (.slice none 0 0))
    clear s N1 N7 B1
    go_wp2_with fail
    refine (HL.out _).mono ?_
    rintro e w2 ⟨rfl, rfl⟩
    go_wp2
    refine bodyPost_ret (v := .tuple #[.string ⟨#[]⟩, .agg #[.int .i64 0, .int .i64 0, .slice none 0 0, .slice none 0 0], .bool false]) (by simp [results, Try.results17, go_sem, Z.out.cell]) rfl ⟨_, 0, 0, [], [], false, _, _, rfl, .inl ⟨rfl, rfl, rfl, rfl, rfl, rfl, HF.out⟩, StoreOwn.none _ _, BB.out⟩
  have HL := hid fun W => l1In_yes now 0 1000000 W ht
  have HAT1 := hid (HAT.out w1 ((HI.out.below B1).rdi))
  have x0 : w1.cell? ⟨w.heap.size, 0, none⟩ = some (.int .i64 wd) := N1.cell 0
  have x1 : w1.cell? ⟨w.heap.size, 1, none⟩ = some (.int .i64 room) := N1.cell 1
  have x2 : w1.cell? ⟨w.heap.size, 2, none⟩ = some (.slice ai its.length ci) := N1.cell 2
  have x3 : w1.cell? ⟨w.heap.size, 3, none⟩ = some (.slice ap ts.length cp) := N1.cell 3
  go_wp2_with fail
  refine (HL.out _).mono ?_
  rintro e w2 ⟨rfl, rfl⟩
  go_wp2_with fail
  refine HAT1.out.mono ?_
  rintro e w3 ⟨r, rfl, hr, hb3⟩
  have M1 := N1.below hb3
  have M7 := N7.below hb3
  have B3 := B1.trans (hb3.mono B1.size)
  clear hb3 x0 x1 x2 x3 N1 N7 B1
  rcases hr with ⟨rfl, hno⟩ | ⟨i, hil, rfl, hsum⟩
  · have HF : Hid (¬ GetOk wd room its ts s now) := fun h => by obtain ⟨i, h1, h2⟩ := h.2.2; exact hno i h1 h2
    have s := M7.store4 (.int .i64 0) (.int .i64 0) (.slice none 0 0) (.slice none 0 0)
    have s0 := s.a0; have s1 := s.a1; have s2 := s.a2; have s3 := s.a3
    have k0 := s.f0; have k1 := s.f1; have k2 := s.f2; have k3 := s.f3
    have Z := hid s.z
    have BB := hid ((((B3.setCell (p := ⟨w.heap.size + 1, 0, none⟩) (by simp) (.int .i64 0)).setCell (p := ⟨w.heap.size + 1, 1, none⟩) (by simp) (.int .i64 0)).setCell (p := ⟨w.heap.size + 1, 2, none⟩) (by simp) (.slice none 0 0)).setCell (p := ⟨w.heap.size + 1, 3, none⟩) (by simp) (.slice none 0 0))
    clear s M1 M7 B3 hno
    go_wp2
    refine bodyPost_ret (v := .tuple #[.string ⟨#[]⟩, .agg #[.int .i64 0, .int .i64 0, .slice none 0 0, .slice none 0 0], .bool false]) (by simp [results, Try.results17, go_sem, Z.out.cell]) rfl ⟨_, 0, 0, [], [], false, _, _, rfl, .inl ⟨rfl, rfl, rfl, rfl, rfl, rfl, HF.out⟩, StoreOwn.none _ _, BB.out⟩
  · have hnn : ¬ ((i : Int) < 0) := by omega
    have HCP1 := hid (HCP.out w3 (HI.out.below B3) (Below.row B3 HP.out))
    have x0 : w3.cell? ⟨w.heap.size, 0, none⟩ = some (.int .i64 wd) := M1.cell 0
    have x1 : w3.cell? ⟨w.heap.size, 1, none⟩ = some (.int .i64 room) := M1.cell 1
    have x2 : w3.cell? ⟨w.heap.size, 2, none⟩ = some (.slice ai its.length ci) := M1.cell 2
    have x3 : w3.cell? ⟨w.heap.size, 3, none⟩ = some (.slice ap ts.length cp) := M1.cell 3
    go_wp2_with fail
    refine HCP1.out.mono ?_
    rintro e w4 ⟨v4, p4, rfl, ho4, hp4, hap, hb4⟩
    have hs34 := M7.lt
    have M74 := M7.below hb4
    have B4 := B3.trans (hb4.mono B3.size)
    obtain ⟨g, c4, rfl⟩ : ∃ g c4, v4 = .slice (some ⟨g, 0, none⟩) its.length c4 := by
      rcases ho4 with ⟨_, ⟨rfl, h0⟩ | ⟨g, cap, cur, rfl, _⟩⟩
      · omega
      · exact ⟨g, cap, rfl⟩
    obtain ⟨a4, d4, rfl, _⟩ := row_form hp4
    have hgl := ho4.lt g rfl
    have y1 : ∀ o, (w4.alloc o).cell? ⟨g, i * 2 + 1, none⟩ = some (.int .i64 (itu its i)) := fun o => ((ho4.alloc o).cellAt _ (by omega)).trans (cellsI_at its i hil).2
    have y2 : ∀ o, (w4.alloc o).frozen? ⟨g, i * 2 + 1, none⟩ = false := fun o => (ho4.alloc o).frozenAt _
    clear x0 x1 x2 x3 M1 M7 hb4 B3
    go_upto_region 8 with fail
    have hT4 := Blk.new (w4.setCell ⟨g, i * 2 + 1, none⟩ (.int .i64 now)) 30 #[.int .i64 wd, .int .i64 room, .slice (some ⟨g, 0, none⟩) its.length c4, .slice a4 ts.length d4]
    have hsz4 : (w4.setCell ⟨g, i * 2 + 1, none⟩ (.int .i64 now)).heap.size = w4.heap.size := by simp
    rw [hsz4] at hT4
    have ho5 := (ho4.stored (i * 2 + 1) (.int .i64 now)).1
    rw [cellsI_set its i now hil] at ho5
    have gU := grownBy_setCellAt w4 g (i * 2 + 1) (.int .i64 now)
    have hp5 := hp4.kept gU (.inr fun e => hap g rfl e)
    have hgs : g ≠ w.heap.size + 1 := by omega
    have N7 := (M74.kept gU (fun e => hgs (by cases e; rfl))).alloc (.cells #[.int .i64 wd, .int .i64 room, .slice (some ⟨g, 0, none⟩) its.length c4, .slice a4 ts.length d4] 30)
    have z5 : ((w4.setCell ⟨g, i * 2 + 1, none⟩ (.int .i64 now)).alloc (.cells #[.int .i64 wd, .int .i64 room, .slice (some ⟨g, 0, none⟩) its.length c4, .slice a4 ts.length d4] 30)).cell? ⟨g, i * 2, none⟩ = some (.string (itx its i)) := by
      have h := (ho5.alloc (.cells #[.int .i64 wd, .int .i64 room, .slice (some ⟨g, 0, none⟩) its.length c4, .slice a4 ts.length d4] 30)).cellAt (i * 2) (by omega)
      rw [h]
      have h2 := (cellsI_at (its.set i (itx its i, now)) i (by simpa using hil)).1
      rw [h2]
      simp [itx, hil]
    have hS0 : ((w4.setCell ⟨g, i * 2 + 1, none⟩ (.int .i64 now)).alloc (.cells #[.int .i64 wd, .int .i64 room, .slice (some ⟨g, 0, none⟩) its.length c4, .slice a4 ts.length d4] 30)).drew.cell? ⟨w4.heap.size, 0, none⟩ = some (.int .i64 wd) ∧ ((w4.setCell ⟨g, i * 2 + 1, none⟩ (.int .i64 now)).alloc (.cells #[.int .i64 wd, .int .i64 room, .slice (some ⟨g, 0, none⟩) its.length c4, .slice a4 ts.length d4] 30)).drew.cell? ⟨w4.heap.size, 1, none⟩ = some (.int .i64 room) ∧ ((w4.setCell ⟨g, i * 2 + 1, none⟩ (.int .i64 now)).alloc (.cells #[.int .i64 wd, .int .i64 room, .slice (some ⟨g, 0, none⟩) its.length c4, .slice a4 ts.length d4] 30)).drew.cell? ⟨w4.heap.size, 2, none⟩ = some (.slice (some ⟨g, 0, none⟩) its.length c4) ∧ ((w4.setCell ⟨g, i * 2 + 1, none⟩ (.int .i64 now)).alloc (.cells #[.int .i64 wd, .int .i64 room, .slice (some ⟨g, 0, none⟩) its.length c4, .slice a4 ts.length d4] 30)).drew.cell? ⟨w4.heap.size, 3, none⟩ = some (.slice a4 ts.length d4) ∧ ((w4.setCell ⟨g, i * 2 + 1, none⟩ (.int .i64 now)).alloc (.cells #[.int .i64 wd, .int .i64 room, .slice (some ⟨g, 0, none⟩) its.length c4, .slice a4 ts.length d4] 30)).drew.cell? ⟨g, i * 2, none⟩ = some (.string (itx its i)) := ⟨(cell_drew _ _).trans (hT4.cell 0), (cell_drew _ _).trans (hT4.cell 1), (cell_drew _ _).trans (hT4.cell 2), (cell_drew _ _).trans (hT4.cell 3), (cell_drew _ _).trans z5⟩
    have s := N7.store4 (.int .i64 wd) (.int .i64 room) (.slice (some ⟨g, 0, none⟩) its.length c4) (.slice a4 ts.length d4)
    have s0 := s.a0; have s1 := s.a1; have s2 := s.a2; have s3 := s.a3
    have k0 := s.f0; have k1 := s.f1; have k2 := s.f2; have k3 := s.f3
    have Z := hid s.z
    have hn4 : w4.heap.size ≠ w.heap.size + 1 := by have := M74.lt; omega
    have GG := fun (x : World) (j : Nat) (y : Value) => grownBy_setCellAt x (w.heap.size + 1) j y
    have T1 := (((hT4.kept (GG _ 0 (.int .i64 wd)) (fun e => hn4 (Option.some.inj e))).kept (GG _ 1 (.int .i64 room)) (fun e => hn4 (Option.some.inj e))).kept (GG _ 2 (.slice (some ⟨g, 0, none⟩) its.length c4)) (fun e => hn4 (Option.some.inj e))).kept (GG _ 3 (.slice a4 ts.length d4)) (fun e => hn4 (Option.some.inj e))
    have SO : StoreOwn ((w4.setCell ⟨g, i * 2 + 1, none⟩ (.int .i64 now)).alloc (.cells #[.int .i64 wd, .int .i64 room, .slice (some ⟨g, 0, none⟩) its.length c4, .slice a4 ts.length d4] 30)) (w3.heap.size + 1) (.slice (some ⟨g, 0, none⟩) its.length c4) (.slice a4 ts.length d4) (its.set i (itx its i, now)) ts := ⟨by rw [List.length_set]; exact ho5.alloc _, hp5.alloc _, hap⟩
    have SO4 := hid ((((SO.kept (GG _ 0 (.int .i64 wd)) (by omega)).kept (GG _ 1 (.int .i64 room)) (by omega)).kept (GG _ 2 (.slice (some ⟨g, 0, none⟩) its.length c4)) (by omega)).kept (GG _ 3 (.slice a4 ts.length d4)) (by omega))
    have z6 : ((((((w4.setCell ⟨g, i * 2 + 1, none⟩ (.int .i64 now)).alloc (.cells #[.int .i64 wd, .int .i64 room, .slice (some ⟨g, 0, none⟩) its.length c4, .slice a4 ts.length d4] 30)).setCell ⟨w.heap.size + 1, 0, none⟩ (.int .i64 wd)).setCell ⟨w.heap.size + 1, 1, none⟩ (.int .i64 room)).setCell ⟨w.heap.size + 1, 2, none⟩ (.slice (some ⟨g, 0, none⟩) its.length c4)).setCell ⟨w.heap.size + 1, 3, none⟩ (.slice a4 ts.length d4)).cell? ⟨g, i * 2, none⟩ = some (.string (itx its i)) := by
      obtain ⟨a', c', e', hc⟩ := SO4.out.rdi
      rw [List.length_set] at e'
      cases e'
      obtain ⟨b', o', e2, _, h1, _⟩ := hc i (by simpa using hil)
      cases e2
      rw [Nat.zero_add] at h1
      rw [h1]
      simp [itx, hil]
    have hS1 : ((((((w4.setCell ⟨g, i * 2 + 1, none⟩ (.int .i64 now)).alloc (.cells #[.int .i64 wd, .int .i64 room, .slice (some ⟨g, 0, none⟩) its.length c4, .slice a4 ts.length d4] 30)).setCell ⟨w.heap.size + 1, 0, none⟩ (.int .i64 wd)).setCell ⟨w.heap.size + 1, 1, none⟩ (.int .i64 room)).setCell ⟨w.heap.size + 1, 2, none⟩ (.slice (some ⟨g, 0, none⟩) its.length c4)).setCell ⟨w.heap.size + 1, 3, none⟩ (.slice a4 ts.length d4)).drew.cell? ⟨w4.heap.size, 0, none⟩ = some (.int .i64 wd) ∧ ((((((w4.setCell ⟨g, i * 2 + 1, none⟩ (.int .i64 now)).alloc (.cells #[.int .i64 wd, .int .i64 room, .slice (some ⟨g, 0, none⟩) its.length c4, .slice a4 ts.length d4] 30)).setCell ⟨w.heap.size + 1, 0, none⟩ (.int .i64 wd)).setCell ⟨w.heap.size + 1, 1, none⟩ (.int .i64 room)).setCell ⟨w.heap.size + 1, 2, none⟩ (.slice (some ⟨g, 0, none⟩) its.length c4)).setCell ⟨w.heap.size + 1, 3, none⟩ (.slice a4 ts.length d4)).drew.cell? ⟨w4.heap.size, 1, none⟩ = some (.int .i64 room) ∧ ((((((w4.setCell ⟨g, i * 2 + 1, none⟩ (.int .i64 now)).alloc (.cells #[.int .i64 wd, .int .i64 room, .slice (some ⟨g, 0, none⟩) its.length c4, .slice a4 ts.length d4] 30)).setCell ⟨w.heap.size + 1, 0, none⟩ (.int .i64 wd)).setCell ⟨w.heap.size + 1, 1, none⟩ (.int .i64 room)).setCell ⟨w.heap.size + 1, 2, none⟩ (.slice (some ⟨g, 0, none⟩) its.length c4)).setCell ⟨w.heap.size + 1, 3, none⟩ (.slice a4 ts.length d4)).drew.cell? ⟨w4.heap.size, 2, none⟩ = some (.slice (some ⟨g, 0, none⟩) its.length c4) ∧ ((((((w4.setCell ⟨g, i * 2 + 1, none⟩ (.int .i64 now)).alloc (.cells #[.int .i64 wd, .int .i64 room, .slice (some ⟨g, 0, none⟩) its.length c4, .slice a4 ts.length d4] 30)).setCell ⟨w.heap.size + 1, 0, none⟩ (.int .i64 wd)).setCell ⟨w.heap.size + 1, 1, none⟩ (.int .i64 room)).setCell ⟨w.heap.size + 1, 2, none⟩ (.slice (some ⟨g, 0, none⟩) its.length c4)).setCell ⟨w.heap.size + 1, 3, none⟩ (.slice a4 ts.length d4)).drew.cell? ⟨w4.heap.size, 3, none⟩ = some (.slice a4 ts.length d4) ∧ ((((((w4.setCell ⟨g, i * 2 + 1, none⟩ (.int .i64 now)).alloc (.cells #[.int .i64 wd, .int .i64 room, .slice (some ⟨g, 0, none⟩) its.length c4, .slice a4 ts.length d4] 30)).setCell ⟨w.heap.size + 1, 0, none⟩ (.int .i64 wd)).setCell ⟨w.heap.size + 1, 1, none⟩ (.int .i64 room)).setCell ⟨w.heap.size + 1, 2, none⟩ (.slice (some ⟨g, 0, none⟩) its.length c4)).setCell ⟨w.heap.size + 1, 3, none⟩ (.slice a4 ts.length d4)).drew.cell? ⟨g, i * 2, none⟩ = some (.string (itx its i)) := ⟨(cell_drew _ _).trans (T1.cell 0), (cell_drew _ _).trans (T1.cell 1), (cell_drew _ _).trans (T1.cell 2), (cell_drew _ _).trans (T1.cell 3), (cell_drew _ _).trans z6⟩
    have B5 := (B4.setCell (p := ⟨g, i * 2 + 1, none⟩) (by show w.heap.size ≤ g; omega) (.int .i64 now)).alloc (by have := B4.size; simp; omega) (.cells #[.int .i64 wd, .int .i64 room, .slice (some ⟨g, 0, none⟩) its.length c4, .slice a4 ts.length d4] 30)
    have B6 := (((B5.setCell (p := ⟨w.heap.size + 1, 0, none⟩) (by simp) (.int .i64 wd)).setCell (p := ⟨w.heap.size + 1, 1, none⟩) (by simp) (.int .i64 room)).setCell (p := ⟨w.heap.size + 1, 2, none⟩) (by simp) (.slice (some ⟨g, 0, none⟩) its.length c4)).setCell (p := ⟨w.heap.size + 1, 3, none⟩) (by simp) (.slice a4 ts.length d4)
    have BB := hid (below_drewN B6 1)
    clear B5 B6
    clear s N7 T1 SO GG hT4 ho5 hp5 gU y1 y2 ho4 hp4 M74
    refine wp_region_held (S := fun w' => w'.cell? ⟨w4.heap.size, 0, none⟩ = some (.int .i64 wd) ∧ w'.cell? ⟨w4.heap.size, 1, none⟩ = some (.int .i64 room) ∧ w'.cell? ⟨w4.heap.size, 2, none⟩ = some (.slice (some ⟨g, 0, none⟩) its.length c4) ∧ w'.cell? ⟨w4.heap.size, 3, none⟩ = some (.slice a4 ts.length d4) ∧ w'.cell? ⟨g, i * 2, none⟩ = some (.string (itx its i))) (by kernel_rfl) ?_
    change wpAnyH _ _ _ _ _ _ _ _ (World.drew _)
    refine wpAnyH_take (i := 0) (v := .pointer (some ⟨w4.heap.size, 2, none⟩)) rfl (by kernel_rfl) (by kernel_rfl) (by kernel_rfl) (fun _ _ _ h => h) (.inl ⟨rfl, fun w' hS => by obtain ⟨s1, s2, s3, s4, s5⟩ := hS; go_simp⟩) hS0 ?_
    refine wpAnyH_take (i := 1) (v := .slice (some ⟨g, 0, none⟩) its.length c4) rfl (by kernel_rfl) (by kernel_rfl) (by kernel_rfl) (fun _ _ _ h => h) (.inl ⟨rfl, fun w' hS => by obtain ⟨s1, s2, s3, s4, s5⟩ := hS; go_simp⟩) hS0 ?_
    refine wpAnyH_take (i := 2) (v := .int .i64 (i : Nat)) rfl (by kernel_rfl) (by kernel_rfl) (by kernel_rfl) (fun _ _ _ h => h) (.inl ⟨rfl, fun w' hS => by obtain ⟨s1, s2, s3, s4, s5⟩ := hS; go_simp⟩) hS0 ?_
    refine wpAnyH_take (i := 3) (v := .pointer (some ⟨g, i * 2, none⟩)) rfl (by kernel_rfl) (by kernel_rfl) (by kernel_rfl) (fun _ _ _ h => h) (.inl ⟨rfl, fun w' hS => by obtain ⟨s1, s2, s3, s4, s5⟩ := hS; go_simp⟩) hS0 ?_
    refine wpAnyH_take (i := 4) (v := .pointer (some ⟨g, i * 2, none⟩)) rfl (by kernel_rfl) (by kernel_rfl) (by kernel_rfl) (fun _ _ _ h => h) (.inl ⟨rfl, fun w' hS => by obtain ⟨s1, s2, s3, s4, s5⟩ := hS; go_simp⟩) hS0 ?_
    refine wpAnyH_take (i := 5) (v := .string (itx its i)) rfl (by kernel_rfl) (by kernel_rfl) (by kernel_rfl) (fun _ _ _ h => h) (.inl ⟨rfl, fun w' hS => by obtain ⟨s1, s2, s3, s4, s5⟩ := hS; go_simp⟩) hS0 ?_
    refine wpAnyH_take (i := 6) (v := .agg #[.int .i64 wd, .int .i64 room, .slice (some ⟨g, 0, none⟩) its.length c4, .slice a4 ts.length d4]) rfl (by kernel_rfl) (by kernel_rfl) (by kernel_rfl) (fun _ _ _ h => h) (.inl ⟨rfl, fun w' hS => by obtain ⟨s1, s2, s3, s4, s5⟩ := hS; go_simp⟩) hS0 ?_
    refine wpAnyH_take (i := 7) (v := .string (itx its i)) rfl (by kernel_rfl) (by kernel_rfl) (by kernel_rfl) (fun _ _ _ h => h) (.inl ⟨rfl, fun w' hS => by obtain ⟨s1, s2, s3, s4, s5⟩ := hS; go_simp⟩) hS0 ?_
    refine held_one 8 (by kernel_rfl) (op_skip (w' := ((((((w4.setCell ⟨g, i * 2 + 1, none⟩ (.int .i64 now)).alloc (.cells #[.int .i64 wd, .int .i64 room, .slice (some ⟨g, 0, none⟩) its.length c4, .slice a4 ts.length d4] 30)).setCell ⟨w.heap.size + 1, 0, none⟩ (.int .i64 wd)).setCell ⟨w.heap.size + 1, 1, none⟩ (.int .i64 room)).setCell ⟨w.heap.size + 1, 2, none⟩ (.slice (some ⟨g, 0, none⟩) its.length c4)).setCell ⟨w.heap.size + 1, 3, none⟩ (.slice a4 ts.length d4)).drew) rfl rfl (by go_simp) ⟨hS1, ?_⟩)
    refine wpAnyH_take (i := 9) (v := .bool true) rfl (by kernel_rfl) (by kernel_rfl) (by kernel_rfl) (fun _ _ _ h => h) (.inl ⟨rfl, fun w' hS => by obtain ⟨s1, s2, s3, s4, s5⟩ := hS; go_simp⟩) hS1 ?_
    refine wpAnyH_done (by kernel_rfl) ?_ _
    clear hS0 hS1
    go_simp
    go_wp2
    refine bodyPost_ret (v := .tuple #[.string (itx its i), .agg #[.int .i64 wd, .int .i64 room, .slice (some ⟨g, 0, none⟩) its.length c4, .slice a4 ts.length d4], .bool true]) (by simp [results, Try.results17, go_sem, Z.out.cell]) rfl ⟨_, wd, room, _, ts, true, _, _, rfl, .inr ⟨rfl, rfl, rfl, rfl, ⟨HVAL.out, ht, i, hil, hsum⟩, i, hil, hsum, rfl, rfl⟩, (SO4.out.below (below_drewN (Below.refl _ _) 1)).base (by omega), BB.out⟩
end Go.Proofs.Ytmcipciimnncmaa
