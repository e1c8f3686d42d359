import Derived.Test.YtmcipciimnncmaaPinSpec
import Derived.Test.YtmcipciimnncmaaFetchOwn
import Derived.Shelf.Spec.SlicesInsertGrow
import Derived.Test.YtmcipciimnncmaaUnpinImpl
import Derived.Test.YtmcipciimnncmaaSums
/- spec.NewFetch. -/
namespace Go.Proofs.Ytmcipciimnncmaa
open Go.RowKit
def newp : Pr := ⟨0, 0, -1, ⟨#[]⟩, []⟩
def newQ (n : Nat) : PV := List.replicate n (newp, .slice none 0 0)
theorem newQ_len (n : Nat) : (newQ n).length = n := by simp [newQ]
theorem newQ_succ (n : Nat) : cellsQ (newQ (n + 1)) = cellsQ (newQ n) ++ [.int .i64 0, .int .i64 0, .int .i64 (-1), .string ⟨#[]⟩, .slice none 0 0] := by
  unfold newQ cellsQ
  rw [List.replicate_succ', List.flatMap_append]
  simp [newp]
theorem newQ_at (n i : Nat) (h : i < n) : qp (newQ n) i = newp ∧ qv (newQ n) i = .slice none 0 0 := by simp [qp, qv, newQ, h]
theorem newQ_own {w : World} {B n : Nat} {v : Value} (h : w.ownsRow B 75 5 v n (cellsQ (newQ n))) : PeersOwn w B v (newQ n) := by
  refine ⟨by rw [newQ_len]; exact h, fun i hi => ?_, fun i hi g e => ?_, fun i j hi hj _ g e => ?_⟩
  · rw [newQ_len] at hi
    rw [(newQ_at n i hi).1, (newQ_at n i hi).2]
    exact World.ownsRow_nil _ _ _ _
  · rw [newQ_len] at hi
    rw [(newQ_at n i hi).2] at e
    simp [Value.ownBlock] at e
  · rw [newQ_len] at hi
    rw [(newQ_at n i hi).2] at e
    simp [Value.ownBlock] at e
theorem newQ_blk {n : Nat} {v : Value} {g : Nat} (h : PBlk v (newQ n) g) : v.ownBlock = some g := by
  rcases h with h | ⟨i, hi, h⟩
  · exact h
  · rw [newQ_len] at hi
    rw [(newQ_at n i hi).2] at h
    simp [Value.ownBlock] at h
/-- What NewFetch answers. -/
def NewR (wd room : Int) (its : Itms) (ts : List ByteArray) (name : ByteArray) (np : Int) (nm' : ByteArray) (wd' room' : Int) (its' : Itms) (ts' : List ByteArray) (n' : Nat) : Prop :=
  ∃ w1 r1 i1 t1 c, PinR wd room its ts name w1 r1 i1 t1 c ∧
    ((c = 0 ∧ (1 ≤ np ∧ np ≤ 5) ∧ nm' = name ∧ wd' = w1 ∧ room' = r1 ∧ its' = i1 ∧ ts' = t1 ∧ (n' : Int) = np) ∨
     (¬ (c = 0 ∧ (1 ≤ np ∧ np ≤ 5)) ∧ nm' = ⟨#[]⟩ ∧ wd' = 0 ∧ room' = 0 ∧ its' = [] ∧ ts' = [] ∧ n' = 0))
abbrev fzero : Array Value := #[.string ⟨#[]⟩, .int .i64 0, .bool false, .int .i64 0, .int .i64 0, .slice none 0 0, .slice none 0 0, .slice none 0 0]
set_option maxRecDepth 100000 in
set_option maxHeartbeats 4000000 in
theorem specNewFetch_any (wd room : Int) (vi vp : Value) (its : Itms) (ts : List ByteArray) (name : ByteArray) (np : Int) (w : World) (b1 b2 : Nat) (hi : OwnI w b1 vi its) (hp : w.ownsRow b2 9 1 vp ts.length (ts.map Value.string)) (hli : its.length ≤ 1048576) (hlp : ts.length ≤ 1048576) (hsi : ∀ i, (itx its i).size ≤ 1048576) (hsp : ∀ i, (tv ts i).size ≤ 1048576) :
    Calls Try.prog 21 #[.agg #[.int .i64 wd, .int .i64 room, vi, vp], .string name, .int .i64 np] w fun e w' => ∃ nm' wd' room' its' ts' n' vi' vp' vq', e = .returned (fval nm' 0 false wd' room' vi' vp' vq') ∧ NewR wd room its ts name np nm' wd' room' its' ts' n' ∧ FetchOwn w' (w.heap.size + 2) vi' vp' vq' its' ts' (newQ n') ∧ Below w.heap.size w w' := by
  obtain ⟨ai, ci, hvi⟩ : ∃ ai ci, vi = .slice ai its.length ci := by obtain ⟨g, e, _⟩ := hi; exact ⟨_, _, e⟩
  subst hvi
  obtain ⟨ap, cp, rfl, _⟩ := row_form hp
  have hA := ((Below.refl w.heap.size w).alloc (Nat.le_refl _) (.cells #[.int .i64 wd, .int .i64 room, .slice ai its.length ci, .slice ap ts.length cp] 30)).alloc (by simp) (.cells fzero 43)
  have hN7 := Blk.new (w.alloc (.cells #[.int .i64 wd, .int .i64 room, .slice ai its.length ci, .slice ap ts.length cp] 30)) 43 fzero
  rw [World.size_alloc] at hN7
  have HN7 := hid hN7
  have HPN := hid (specPin_any wd room _ _ its ts name _ b1 b2 (hi.below hA) (Below.row hA hp) hli hlp hsi hsp)
  have HA := hid hA
  obtain ⟨i0, hi0, hz0, hz1, hz2⟩ := info_parts Try.infoPeer
  clear hi hp hA hN7 hsi hsp
  go_enter Try.func21, Try.ntmps21
  go_wp2_with fail
  refine HPN.out.mono ?_
  rintro e w1 ⟨wd1, room1, its1, ts1, c, v1, p1, rfl, hR, so1, hb1⟩
  have N1 := HN7.out.below hb1
  have B1 := HA.out.trans (hb1.mono (by simp; omega))
  have hs1 := hb1.size
  simp only [World.size_alloc] at hs1 so1
  obtain ⟨a1, c1, rfl⟩ := row_any so1.items
  obtain ⟨a2, c2, rfl⟩ := row_any so1.pins
  have HSO := hid so1
  have HR := hid hR
  clear hb1 so1 hR
  by_cases hc : c = 0
  case neg =>
    have hcb : (c == 0) = false := by simpa using hc
    have HF : Hid (NewR wd room its ts name np ⟨#[]⟩ 0 0 [] [] 0) := ⟨_, _, _, _, _, HR.out, .inr ⟨fun h => hc h.1, rfl, rfl, rfl, rfl, rfl, rfl⟩⟩
    have N2 := N1.alloc (.cells #[.int .i64 wd1, .int .i64 room1, .slice a1 its1.length c1, .slice a2 ts1.length c2] 30)
    have B2 := B1.alloc (by omega) (.cells #[.int .i64 wd1, .int .i64 room1, .slice a1 its1.length c1, .slice a2 ts1.length c2] 30)
    have s := N2.store8 (.string ⟨#[]⟩) (.int .i64 0) (.bool false) (.int .i64 0) (.int .i64 0) (.slice none 0 0) (.slice none 0 0) (.slice none 0 0)
    obtain ⟨q0, k0, q1, k1, q2, k2, q3, k3, q4, k4, q5, k5, q6, k6, q7, k7⟩ := s
    have Z := hid (N2.set8 (.string ⟨#[]⟩) (.int .i64 0) (.bool false) (.int .i64 0) (.int .i64 0) (.slice none 0 0) (.slice none 0 0) (.slice none 0 0))
    have BB := hid (below_set8 B2 (b := w.heap.size + 1) (by omega) (Nat.le_refl _) (.string ⟨#[]⟩) (.int .i64 0) (.bool false) (.int .i64 0) (.int .i64 0) (.slice none 0 0) (.slice none 0 0) (.slice none 0 0))
    clear N1 B1 N2 B2
    go_wp2
    rw [set8_def]
    refine bodyPost_ret (v := .agg fzero) (by simp [results, Try.results21, go_sem, Z.out.cell]) rfl ⟨⟨#[]⟩, 0, 0, [], [], 0, _, _, _, rfl, HF.out, FetchOwn.none _ _, BB.out⟩
  subst hc
  by_cases hnp : 1 ≤ np ∧ np ≤ 5
  case neg =>
    have HLN := hid fun W => l1In_any np 1 5 W
    have hdn : decide (1 ≤ np ∧ np ≤ 5) = false := by simpa using hnp
    rw [hdn] at HLN
    have HF : Hid (NewR wd room its ts name np ⟨#[]⟩ 0 0 [] [] 0) := ⟨_, _, _, _, _, HR.out, .inr ⟨fun h => hnp h.2, rfl, rfl, rfl, rfl, rfl, rfl⟩⟩
    have N2 := N1.alloc (.cells #[.int .i64 wd1, .int .i64 room1, .slice a1 its1.length c1, .slice a2 ts1.length c2] 30)
    have B2 := B1.alloc (by omega) (.cells #[.int .i64 wd1, .int .i64 room1, .slice a1 its1.length c1, .slice a2 ts1.length c2] 30)
    have s := N2.store8 (.string ⟨#[]⟩) (.int .i64 0) (.bool false) (.int .i64 0) (.int .i64 0) (.slice none 0 0) (.slice none 0 0) (.slice none 0 0)
    obtain ⟨q0, k0, q1, k1, q2, k2, q3, k3, q4, k4, q5, k5, q6, k6, q7, k7⟩ := s
    have Z := hid (N2.set8 (.string ⟨#[]⟩) (.int .i64 0) (.bool false) (.int .i64 0) (.int .i64 0) (.slice none 0 0) (.slice none 0 0) (.slice none 0 0))
    have BB := hid (below_set8 B2 (b := w.heap.size + 1) (by omega) (Nat.le_refl _) (.string ⟨#[]⟩) (.int .i64 0) (.bool false) (.int .i64 0) (.int .i64 0) (.slice none 0 0) (.slice none 0 0) (.slice none 0 0))
    clear N1 B1 N2 B2 hdn
    go_wp2_with fail
    refine (HLN.out _).mono ?_
    rintro e w2 ⟨rfl, rfl⟩
    go_wp2
    rw [set8_def]
    refine bodyPost_ret (v := .agg fzero) (by simp [results, Try.results21, go_sem, Z.out.cell]) rfl ⟨⟨#[]⟩, 0, 0, [], [], 0, _, _, _, rfl, HF.out, FetchOwn.none _ _, BB.out⟩
  have HLN := hid fun W => l1In_any np 1 5 W
  have hdn : decide (1 ≤ np ∧ np ≤ 5) = true := by simpa using hnp
  rw [hdn] at HLN
  obtain ⟨hn1, hn5⟩ := hnp
  obtain ⟨n, rfl⟩ := Int.eq_ofNat_of_zero_le (show 0 ≤ np by omega)
  have HF : Hid (NewR wd room its ts name (n : Int) name wd1 room1 its1 ts1 n) := ⟨_, _, _, _, _, HR.out, .inl ⟨rfl, ⟨hn1, hn5⟩, rfl, rfl, rfl, rfl, rfl, rfl⟩⟩
  have hw2 : (w1.alloc (.cells #[.int .i64 wd1, .int .i64 room1, .slice a1 its1.length c1, .slice a2 ts1.length c2] 30)).heap.size = w1.heap.size + 1 := World.size_alloc _ _
  have hXF := Blk.new (w1.alloc (.cells #[.int .i64 wd1, .int .i64 room1, .slice a1 its1.length c1, .slice a2 ts1.length c2] 30)) 43 #[.string name, .int .i64 0, .bool false, .int .i64 wd1, .int .i64 room1, .slice a1 its1.length c1, .slice a2 ts1.length c2, .slice none 0 0]
  rw [hw2] at hXF
  have HXF := hid hXF
  have N2 := (N1.alloc (.cells #[.int .i64 wd1, .int .i64 room1, .slice a1 its1.length c1, .slice a2 ts1.length c2] 30)).alloc (.cells #[.string name, .int .i64 0, .bool false, .int .i64 wd1, .int .i64 room1, .slice a1 its1.length c1, .slice a2 ts1.length c2, .slice none 0 0] 43)
  have B2 := (B1.alloc (by omega) (.cells #[.int .i64 wd1, .int .i64 room1, .slice a1 its1.length c1, .slice a2 ts1.length c2] 30)).alloc (by rw [hw2]; omega) (.cells #[.string name, .int .i64 0, .bool false, .int .i64 wd1, .int .i64 room1, .slice a1 its1.length c1, .slice a2 ts1.length c2, .slice none 0 0] 43)
  have hS2 := (HSO.out.below ((Below.refl w1.heap.size w1).alloc (Nat.le_refl _) (.cells #[.int .i64 wd1, .int .i64 room1, .slice a1 its1.length c1, .slice a2 ts1.length c2] 30))).below ((Below.refl _ _).alloc (Nat.le_refl _) (.cells #[.string name, .int .i64 0, .bool false, .int .i64 wd1, .int .i64 room1, .slice a1 its1.length c1, .slice a2 ts1.length c2, .slice none 0 0] 43))
  obtain ⟨w3, hw3⟩ : ∃ w3, w3 = (w1.alloc (.cells #[.int .i64 wd1, .int .i64 room1, .slice a1 its1.length c1, .slice a2 ts1.length c2] 30)).alloc (.cells #[.string name, .int .i64 0, .bool false, .int .i64 wd1, .int .i64 room1, .slice a1 its1.length c1, .slice a2 ts1.length c2, .slice none 0 0] 43) := ⟨_, rfl⟩
  have hs3 : w3.heap.size = w1.heap.size + 2 := by rw [hw3, World.size_alloc, hw2]
  rw [← hw3] at HXF N2 B2 hS2
  have HW3 := hid hw3
  have HN2 := hid N2
  have HB2 := hid B2
  have HS2 := hid hS2
  have HLI := hid fun g (e : (Value.slice a1 its1.length c1).ownBlock = some g) => HSO.out.items.lt g e
  have HLP := hid fun g (e : (Value.slice a2 ts1.length c2).ownBlock = some g) => HSO.out.pins.lt g e
  clear N1 B1 N2 B2 hdn hXF hw2 hw3 hS2
  go_wp2_with fail
  refine (HLN.out _).mono ?_
  rintro e w2 ⟨rfl, rfl⟩
  go_wp2
  rw [← HW3.out]
  go_loopw [10] (fun i wr => ∃ (k : Nat) (v : Value), k ≤ n ∧ i = .int .i64 k ∧ Blk wr (w1.heap.size + 1) 43 #[.string name, .int .i64 0, .bool false, .int .i64 wd1, .int .i64 room1, .slice a1 its1.length c1, .slice a2 ts1.length c2, v] ∧ wr.ownsRow w3.heap.size 75 5 v k (cellsQ (newQ k)) ∧ w3.grownBy wr (some (w1.heap.size + 1))) (fun i _ => n - (intOf i).toNat)
  case atStart => exact ⟨0, _, Nat.zero_le _, rfl, HXF.out, World.ownsRow_nil _ _ _ _, grown_refl2 _ _⟩
  case round =>
    obtain ⟨k, v, hk, rfl, hbx, hrow, hg⟩ := hrel
    have hgs := hg.size
    by_cases hlt : k < n
    · have l0 : ∀ o, (wr.alloc o).cell? ⟨w1.heap.size + 1, 7, none⟩ = some v := fun o => (hbx.alloc o).cell 7
      have l1 : wr.cell? ⟨w1.heap.size + 1, 7, none⟩ = some v := hbx.cell 7
      have HK := hid (newQ_succ k)
      go_wp2_with (at_builtin; refine wpList_append_own _ rfl _ _ 41 rfl w3.heap.size 75 i0 (.agg #[.int .i64 0, .int .i64 0, .int .i64 0, .string ⟨#[]⟩, .slice none 0 0]) 5 64 Try.underlying41 hi0 hz0 hz1 hz2 rfl (by decide) _ _ _ rfl (hrow.alloc _) ⟨_, 0, none⟩ 1 1 [.int .i64 0, .int .i64 0, .int .i64 (-1), .string ⟨#[]⟩, .slice none 0 0] rfl rfl (five_new _ _ _ _ _ _ _) (by simp [Value.oneCell']) (by unfold maxLen; omega) (by omega) (by simp; omega) ?_; intro v' w6 hown' hgrow _; obtain ⟨av, cv, rfl⟩ := row_any hown'; obtain ⟨hb6, ho6, hg6⟩ := field_stored (c := 7) hbx hrow (by omega) hown' hgrow; have l6 : w6.cell? ⟨w1.heap.size + 1, 7, none⟩ = some v := hb6.cell 7; have f6 := hb6.fz 7)
      refine ⟨⟨k + 1, _, by omega, by go_num, hb6.set 7 _, by rw [HK.out]; exact ho6, hg6 _ hg rfl⟩, by simp [intOf]; omega⟩
    · obtain rfl : n = k := by omega
      have c0 : wr.cell? ⟨w1.heap.size + 1, 0, none⟩ = some (.string name) := hbx.cell 0
      have c1' : wr.cell? ⟨w1.heap.size + 1, 1, none⟩ = some (.int .i64 0) := hbx.cell 1
      have c2' : wr.cell? ⟨w1.heap.size + 1, 2, none⟩ = some (.bool false) := hbx.cell 2
      have c3 : wr.cell? ⟨w1.heap.size + 1, 3, none⟩ = some (.int .i64 wd1) := hbx.cell 3
      have c4 : wr.cell? ⟨w1.heap.size + 1, 4, none⟩ = some (.int .i64 room1) := hbx.cell 4
      have c5 : wr.cell? ⟨w1.heap.size + 1, 5, none⟩ = some (.slice a1 its1.length c1) := hbx.cell 5
      have c6 : wr.cell? ⟨w1.heap.size + 1, 6, none⟩ = some (.slice a2 ts1.length c2) := hbx.cell 6
      have c7 : wr.cell? ⟨w1.heap.size + 1, 7, none⟩ = some v := hbx.cell 7
      have hne : w.heap.size + 1 ≠ w1.heap.size + 1 := by omega
      have NR := HN2.out.kept hg (fun e => hne (Option.some.inj e))
      have s := NR.store8 (.string name) (.int .i64 0) (.bool false) (.int .i64 wd1) (.int .i64 room1) (.slice a1 its1.length c1) (.slice a2 ts1.length c2) v
      obtain ⟨q0, k0, q1, k1, q2, k2, q3, k3, q4, k4, q5, k5, q6, k6, q7, k7⟩ := s
      have Z := hid (NR.set8 (.string name) (.int .i64 0) (.bool false) (.int .i64 wd1) (.int .i64 room1) (.slice a1 its1.length c1) (.slice a2 ts1.length c2) v)
      have GG := grown_set8 wr (w.heap.size + 1) (.string name) (.int .i64 0) (.bool false) (.int .i64 wd1) (.int .i64 room1) (.slice a1 its1.length c1) (.slice a2 ts1.length c2) v
      have BB := hid (below_set8 (HB2.out.grown hg (by omega) (fun g e => by cases e; omega)) (b := w.heap.size + 1) (by omega) (Nat.le_refl _) (.string name) (.int .i64 0) (.bool false) (.int .i64 wd1) (.int .i64 room1) (.slice a1 its1.length c1) (.slice a2 ts1.length c2) v)
      have SS := HS2.out.same (fun g e => (GG.block g (by have := HLI.out g e; omega) (fun e2 => by have := HLI.out g e; have := Option.some.inj e2; omega)).trans (hg.block g (by have := HLI.out g e; omega) (fun e2 => by have := HLI.out g e; have := Option.some.inj e2; omega))) (fun g e => (GG.block g (by have := HLP.out g e; omega) (fun e2 => by have := HLP.out g e; have := Option.some.inj e2; omega)).trans (hg.block g (by have := HLP.out g e; omega) (fun e2 => by have := HLP.out g e; have := Option.some.inj e2; omega)))
      have PP := newQ_own (row_far hrow GG (fun e => by have := (hrow.lt _ e).1; omega))
      have FO : Hid (FetchOwn (set8 wr (w.heap.size + 1) (.string name) (.int .i64 0) (.bool false) (.int .i64 wd1) (.int .i64 room1) (.slice a1 its1.length c1) (.slice a2 ts1.length c2) v) (w.heap.size + 2) (.slice a1 its1.length c1) (.slice a2 ts1.length c2) v its1 ts1 (newQ n)) :=
        ⟨SS.base (by omega), PP.base (by omega), fun g e h => by have h1 := (HLI.out g e).2; have h2 := (hrow.lt g (newQ_blk h)).1; omega, fun g e h => by have h1 := (HLP.out g e).2; have h2 := (hrow.lt g (newQ_blk h)).1; omega⟩
      clear hbx hrow hg NR GG SS PP
      obtain ⟨a8, c8, rfl⟩ : ∃ a c, v = .slice a n c := by obtain ⟨a, c, e⟩ := row_any FO.out.peers.row; rw [newQ_len] at e; exact ⟨a, c, e⟩
      go_wp2
      rw [set8_def]
      refine bodyPost_ret (v := fval name 0 false wd1 room1 (.slice a1 its1.length c1) (.slice a2 ts1.length c2) (.slice a8 n c8)) (by simp [results, Try.results21, go_sem, Z.out.cell]) rfl ⟨name, wd1, room1, its1, ts1, n, _, _, _, rfl, HF.out, FO.out, BB.out⟩
end Go.Proofs.Ytmcipciimnncmaa
/- slices.Insert of one text; (*shelf).pin. -/
namespace Go.Proofs.Ytmcipciimnncmaa
open Go.RowKit Go.Shelf
def nRen : Ren := { f := fun n => if n = 22 then 71 else if n = 17 then 98 else if n = 29 then 79 else if n = 30 then 80 else if n = 36 then 86 else n, t := fun n => if n = 24 then 23 else n, g := fun n => n }
theorem nLays : Lays2.n22 Try.prog nRen where
  mixed := by kernel_rfl
  f17 := by kernel_rfl
  f22 := by kernel_rfl
  f29 := by kernel_rfl
  f30 := by kernel_rfl
  f36 := by kernel_rfl
  t0 := by kernel_rfl
  a0 := fun _ => by kernel_rfl
  z0 := fun _ => by kernel_rfl
  v0 := fun _ => by kernel_rfl
  t3 := by kernel_rfl
  a3 := fun _ => by kernel_rfl
  z3 := fun _ => by kernel_rfl
  v3 := fun _ => by kernel_rfl
  t4 := by kernel_rfl
  a4 := fun _ => by kernel_rfl
  z4 := fun _ => by kernel_rfl
  v4 := fun _ => by kernel_rfl
  t9 := by kernel_rfl
  a9 := fun _ => by kernel_rfl
  z9 := fun _ => by kernel_rfl
  v9 := fun _ => by kernel_rfl
  t24 := by kernel_rfl
  a24 := fun _ => by kernel_rfl
  z24 := fun _ => by kernel_rfl
  v24 := fun _ => by kernel_rfl
  i9 := by kernel_rfl
theorem ins_get (ts : List ByteArray) (name : ByteArray) (i : Nat) (hi : i ≤ ts.length) (j : Nat) : (ts.take i ++ name :: ts.drop i).getD j ByteArray.empty = if j < i then tv ts j else if j = i then name else tv ts (j - 1) := by
  have hl : (ts.take i).length = i := by simp; omega
  rw [List.getD_eq_getElem?_getD, List.getElem?_append, hl]
  split
  · next h => rw [List.getElem?_take_of_lt h]; simp [tv]
  · next h =>
    split
    · next h2 => subst h2; simp
    · next h2 =>
      obtain ⟨k, rfl⟩ : ∃ k, j = i + 1 + k := ⟨j - (i + 1), by omega⟩
      rw [show i + 1 + k - i = k + 1 by omega, List.getElem?_cons_succ, List.getElem?_drop, show i + 1 + k - 1 = i + k by omega]
      simp [tv]
theorem grown_far {A B : World} {o : Option Nat} (h : A.grownBy B o) {b : Nat} (hb : A.heap.size ≤ b) (i : Nat) (vs : List Value) : A.grownBy (B.setCells b i vs) o :=
  have hg := grown_setCells b vs i B
  ⟨hg.os.trans h.os, hg.tape.trans h.tape, hg.output.trans h.output, Nat.le_trans h.size hg.size, fun k hk hn => (hg.block k (Nat.lt_of_lt_of_le hk h.size) (fun e => by have := Option.some.inj e; omega)).trans (h.block k hk hn)⟩
theorem insertRow_any (v : Value) (i B vb : Nat) (ts : List ByteArray) (name : ByteArray) (w : World) (hr : w.ownsRow B 9 1 v ts.length (ts.map Value.string)) (hi : i ≤ ts.length) (hts : ts.length ≤ 1048576) (hv : w.heap[vb]? = some (.cells #[.string name] 9 (0, 0))) (hne : v.ownBlock ≠ some vb) :
    Calls Try.prog 71 #[v, .int .i64 i, .slice (some ⟨vb, 0, none⟩) 1 1] w fun e w' => ∃ v', e = .returned v' ∧ Reads w' v' (ts.take i ++ name :: ts.drop i) ∧ (∀ b, v'.ownBlock = some b → v.ownBlock = some b ∨ w.heap.size ≤ b) ∧ w.grownBy w' v.ownBlock := by
  have hl : (ts.take i ++ name :: ts.drop i).length = ts.length + 1 := by simp; omega
  have hcs : (ts.map Value.string).length = ts.length := by simp
  have h1c : ∀ x ∈ ts.map Value.string, x.oneCell' = true := fun x hx => by obtain ⟨y, _, rfl⟩ := List.mem_map.1 hx; rfl
  have h1v : ∀ x ∈ [Value.string name], x.oneCell' = true := fun x hx => by rw [List.mem_singleton.1 hx]; rfl
  have hvs : ∀ (j : Nat) (x : Value), [Value.string name][j]? = some x → w.cell? ⟨vb, 0 + j, none⟩ = some x := fun j x hj => by
    have : j = 0 := by
      by_cases h : j = 0
      · exact h
      · rw [List.getElem?_eq_none (by simp; omega)] at hj; cases hj
    subst this
    simp at hj
    subst hj
    simp [World.cell?, hv]
  have hzc : ((Value.string ⟨#[]⟩).cells).size = 1 := rfl
  have hdd : Below w.heap.size w w.drew := below_drewN (Below.refl _ _) 1
  rcases hr with ⟨h0, ⟨rfl, hn⟩ | ⟨g, cap, cur, rfl, hB, hcur, hnc, hmc, hsz, htk⟩⟩
  · have e1 : ts = [] := List.eq_nil_of_length_eq_zero hn
    subst e1
    have : i = 0 := by simpa using hi
    subst this
    have h := Any2.slices_Insert_string_end_grow nLays none 0 0 vb 0 1 1 [] [Value.string name] w (by omega) (by omega) (by omega) (by omega) rfl rfl (fun _ => rfl) (fun _ e => by cases e) hvs h1v
    refine h.mono ?_
    rintro e w' ⟨rfl, rfl⟩
    refine ⟨_, rfl, .inr ⟨w.heap.size, 0, _, rfl, ?_, ?_⟩, fun b e => .inr (by cases e; exact Nat.le_refl _), grown_same (grown_below' hdd) (World.grownBy_alloc _ _ _)⟩
    · rw [World.size_alloc]; exact Nat.lt_succ_self _
    · intro j hj
      have : j = 0 := by simpa using hj
      subst this
      have hc := World.cell?_alloc_new w.drew (([] ++ [Value.string name]).toArray ++ Builtin.zeroCells (Value.string ⟨#[]⟩).cells (grownCap w (0 + 1) 0 (nRen.t 9) - (0 + 1))) (nRen.t 9) 0
      refine Eq.trans (Eq.trans ?_ hc) (by rw [Array.getElem?_append_left (by simp)]; simp)
      rfl
  have hr : w.ownsRow B 9 1 (.slice (some ⟨g, 0, none⟩) ts.length cap) ts.length (ts.map Value.string) := ⟨h0, .inr ⟨g, cap, cur, rfl, hB, hcur, hnc, hmc, hsz, htk⟩⟩
  have hgv : vb ≠ g := fun e => hne (by rw [e]; rfl)
  have hlt := (hr.lt g rfl).2
  have hcm : cap ≤ 9223372036854775807 := by unfold maxLen at hmc; omega
  have hcell : ∀ j, j < ts.length → w.cell? ⟨g, 0 + j, none⟩ = some (.string (tv ts j)) := fun j hj => by
    rw [Nat.zero_add, hr.cellAt j (by omega)]
    simp [tv, hj]
  have hcell2 : ∀ (j : Nat) (x : Value), (ts.map Value.string)[j]? = some x → w.cell? ⟨g, 0 + j, none⟩ = some x := fun j x hj => by
    rw [Nat.zero_add, ← hj]
    have : j < ts.length := by
      by_cases h : j < ts.length
      · exact h
      · rw [List.getElem?_eq_none (by simp; omega)] at hj; cases hj
    exact hr.cellAt j (by omega)
  have hspare : ∀ j, j < cap → (w.cell? ⟨g, 0 + j, none⟩).isSome = true := fun j hj => by
    have : j < cur.size := by omega
    simp [World.cell?, hcur, this]
  have hfz : ∀ j, w.frozen? ⟨g, 0 + j, none⟩ = false := fun j => hr.frozenAt _
  by_cases hroom : ts.length + 1 ≤ cap
  · by_cases hin : i < ts.length
    · have h := Any2.slices_Insert_string_shift nLays g 0 ts.length cap i vb 0 1 1 (ts.map Value.string) [Value.string name] w hin (by omega) hroom hcm hgv hcs rfl hcell2 (fun j hj => hspare j (by omega)) (fun j _ => hfz j) hvs h1c h1v 9 9 1 cap (by simp [World.shape?, hv]) (by simp [World.shape?, hcur, hsz]) (by omega) (by simp [World.frozen?, hv]) (by simp [World.frozen?, hv])
      refine h.mono ?_
      rintro e w' ⟨rfl, rfl⟩
      have hg : w.grownBy ((w.drew.setCells g (0 + (i + 1)) ((ts.map Value.string).drop i)).setCells g (0 + i) [Value.string name]) (some g) := grown_same (grown_below' hdd) (grown_same (grown_setCells g _ _ _) (grown_setCells g _ _ _))
      refine ⟨_, rfl, .inr ⟨g, 0, cap, by rw [hl], Nat.lt_of_lt_of_le hlt hg.size, fun j hj => ?_⟩, fun b e => .inl e, hg⟩
      rw [hl] at hj
      rw [ins_get ts name i hi]
      have hd1 : ∀ k, k < ((ts.map Value.string).drop i).length → (w.drew.cell? ⟨g, 0 + (i + 1) + k, none⟩).isSome = true := fun k hk => by
        have := hspare (i + 1 + k) (by simp at hk; omega)
        rw [show 0 + (i + 1) + k = 0 + (i + 1 + k) by omega]
        exact this
      split
      · next h1 =>
        rw [World.cell?_setCells_out g _ _ _ _ (fun _ _ => .inl (by show 0 + j < 0 + i; omega)), World.cell?_setCells_out g _ _ _ _ (fun _ _ => .inl (by show 0 + j < 0 + (i + 1); omega))]
        exact hcell j (by omega)
      · next h1 =>
        split
        · next h2 =>
          subst h2
          have := World.cell?_setCells_in g [Value.string name] (0 + j) (w.drew.setCells g (0 + (j + 1)) ((ts.map Value.string).drop j)) (fun k hk => by
            have hk0 : k = 0 := by simpa using hk
            subst hk0
            rw [World.cell?_setCells_out g _ _ _ _ (fun _ _ => .inl (by show 0 + j + 0 < 0 + (j + 1); omega))]
            exact hspare j (by omega)) 0 (by simp)
          exact this
        · next h2 =>
          obtain ⟨k, rfl⟩ : ∃ k, j = i + 1 + k := ⟨j - (i + 1), by omega⟩
          rw [World.cell?_setCells_out g _ _ _ _ (fun _ _ => .inr (by show 0 + i + 1 ≤ 0 + (i + 1 + k); omega))]
          have := World.cell?_setCells_in g ((ts.map Value.string).drop i) (0 + (i + 1)) w.drew hd1 k (by simp; omega)
          rw [show 0 + (i + 1 + k) = 0 + (i + 1) + k by omega, this]
          have hk3 : i + k < ts.length := by omega
          rw [show i + 1 + k - 1 = i + k by omega]
          simp [tv, hk3]
    · have hin' : i = ts.length := by omega
      subst hin'
      have h := Any2.slices_Insert_string_end_room nLays g 0 ts.length cap vb 0 1 1 [Value.string name] w (by omega) hroom hcm rfl (fun j hj => by rw [Nat.add_assoc]; exact hspare _ (by omega)) (fun j _ => by rw [Nat.add_assoc]; exact hfz _) hvs h1v
      refine h.mono ?_
      rintro e w' ⟨rfl, rfl⟩
      have hg : w.grownBy (w.setCells g (0 + ts.length) [Value.string name]) (some g) := grown_setCells g _ _ _
      refine ⟨_, rfl, .inr ⟨g, 0, cap, by rw [hl], Nat.lt_of_lt_of_le hlt hg.size, fun j hj => ?_⟩, fun b e => .inl e, hg⟩
      rw [hl] at hj
      rw [ins_get ts name ts.length hi]
      split
      · next h1 =>
        rw [World.cell?_setCells_out g _ _ _ _ (fun _ _ => .inl (by show 0 + j < 0 + ts.length; omega))]
        exact hcell j h1
      · next h1 =>
        have hjn : j = ts.length := by omega
        subst hjn
        rw [if_pos rfl]
        exact World.cell?_setCells_in g [Value.string name] (0 + ts.length) w (fun k hk => by
          have hk0 : k = 0 := by simpa using hk
          subst hk0
          exact hspare ts.length (by omega)) 0 (by simp)
  · by_cases hin : i < ts.length
    · have h := Any2.slices_Insert_string_grow nLays g 0 ts.length cap i vb 0 1 1 (ts.map Value.string) [Value.string name] w hin (by omega) hnc (by omega) (by omega) hcs rfl hcell2 hvs h1c h1v
      refine h.mono ?_
      rintro e w' ⟨rfl, rfl⟩
      generalize hGC : grownCap w (ts.length + 1) cap (nRen.t 9) = gc
      generalize hAR : ((ts.map Value.string).take i).toArray ++ Builtin.zeroCells (Value.string ⟨#[]⟩).cells (ts.length + 1 - i) ++ Builtin.zeroCells (Value.string ⟨#[]⟩).cells (gc - (ts.length + 1)) = ar
      have har : ts.length + 1 ≤ ar.size := by
        rw [← hAR]
        simp [size_zeroCells, hzc]
        omega
      have ha0 : ∀ j, j < i → ar[j]? = some (.string (tv ts j)) := fun j hj => by
        rw [← hAR, Array.getElem?_append_left (by simp; omega), Array.getElem?_append_left (by simp; omega)]
        have : j < ts.length := by omega
        simp [tv, hj, this]
      have hA : w.grownBy (w.alloc (.cells ar (nRen.t 9))) (some g) := World.grownBy_alloc _ _ _
      have hA2 : w.grownBy (w.alloc (.cells ar (nRen.t 9))).drew (some g) := ⟨hA.os, hA.tape, hA.output, hA.size, hA.block⟩
      have hS1 : w.grownBy ((w.alloc (.cells ar (nRen.t 9))).drew.setCells w.heap.size i [Value.string name]) (some g) := grown_far hA2 (Nat.le_refl _) i [Value.string name]
      have hS2 : w.grownBy ((w.alloc (.cells ar (nRen.t 9))).drew.setCells w.heap.size i [Value.string name]).drew (some g) := ⟨hS1.os, hS1.tape, hS1.output, hS1.size, hS1.block⟩
      have hg := grown_far hS2 (Nat.le_refl _) (i + 1) ((ts.map Value.string).drop i)
      have hz : w.heap.size < (w.alloc (.cells ar (nRen.t 9))).heap.size := by rw [World.size_alloc]; exact Nat.lt_succ_self _
      have hsz5 : w.heap.size < ((((w.alloc (.cells ar (nRen.t 9))).drew.setCells w.heap.size i [Value.string name]).drew).setCells w.heap.size (i + 1) ((ts.map Value.string).drop i)).heap.size :=
        Nat.lt_of_lt_of_le hz (Nat.le_trans (grown_setCells w.heap.size [Value.string name] i (w.alloc (.cells ar (nRen.t 9))).drew).size (grown_setCells w.heap.size ((ts.map Value.string).drop i) (i + 1) ((w.alloc (.cells ar (nRen.t 9))).drew.setCells w.heap.size i [Value.string name]).drew).size)
      have hnew : ∀ j, (w.alloc (.cells ar (nRen.t 9))).drew.cell? ⟨w.heap.size, j, none⟩ = ar[j]? := fun j => World.cell?_alloc_new w ar (nRen.t 9) j
      have hd0 : ∀ k, k < [Value.string name].length → ((w.alloc (.cells ar (nRen.t 9))).drew.cell? ⟨w.heap.size, i + k, none⟩).isSome = true := fun k hk => by
        have hk0 : k = 0 := by simpa using hk
        subst hk0
        rw [hnew, Array.getElem?_eq_getElem (by omega)]; rfl
      have hd1 : ∀ k, k < ((ts.map Value.string).drop i).length → (((w.alloc (.cells ar (nRen.t 9))).drew.setCells w.heap.size i [Value.string name]).drew.cell? ⟨w.heap.size, i + 1 + k, none⟩).isSome = true := fun k hk => by
        show (((w.alloc (.cells ar (nRen.t 9))).drew.setCells w.heap.size i [Value.string name]).cell? ⟨w.heap.size, i + 1 + k, none⟩).isSome = true
        rw [World.cell?_setCells_out w.heap.size _ _ _ _ (fun _ _ => .inr (by show i + 1 ≤ i + 1 + k; omega)), hnew, Array.getElem?_eq_getElem (by simp at hk; omega)]; rfl
      refine ⟨_, rfl, .inr ⟨w.heap.size, 0, gc, by rw [hl], hsz5, fun j hj => ?_⟩, fun b e => .inr (by cases e; exact Nat.le_refl _), hg⟩
      rw [hl] at hj
      rw [ins_get ts name i hi, Nat.zero_add]
      split
      · next h1 =>
        rw [World.cell?_setCells_out w.heap.size _ _ _ _ (fun _ _ => .inl (by show j < i + 1; omega))]
        show ((w.alloc (.cells ar (nRen.t 9))).drew.setCells w.heap.size i [Value.string name]).cell? ⟨w.heap.size, j, none⟩ = _
        rw [World.cell?_setCells_out w.heap.size _ _ _ _ (fun _ _ => .inl (by show j < i; omega)), hnew]
        exact ha0 j h1
      · next h1 =>
        split
        · next h2 =>
          subst h2
          rw [World.cell?_setCells_out w.heap.size _ _ _ _ (fun _ _ => .inl (by show j < j + 1; omega))]
          exact World.cell?_setCells_in w.heap.size [Value.string name] j (w.alloc (.cells ar (nRen.t 9))).drew hd0 0 (by simp)
        · next h2 =>
          obtain ⟨k, rfl⟩ : ∃ k, j = i + 1 + k := ⟨j - (i + 1), by omega⟩
          have := World.cell?_setCells_in w.heap.size ((ts.map Value.string).drop i) (i + 1) ((w.alloc (.cells ar (nRen.t 9))).drew.setCells w.heap.size i [Value.string name]).drew hd1 k (by simp; omega)
          rw [this]
          have hk3 : i + k < ts.length := by omega
          rw [show i + 1 + k - 1 = i + k by omega]
          simp [tv, hk3]
    · have hin' : i = ts.length := by omega
      subst hin'
      have h := Any2.slices_Insert_string_end_grow nLays (some ⟨g, 0, none⟩) ts.length cap vb 0 1 1 (ts.map Value.string) [Value.string name] w (by omega) hnc (by omega) (by omega) hcs rfl (fun e => by cases e) (fun a e j x hj => by cases e; rw [Addr.add_lit]; exact hcell2 j x hj) hvs h1v
      refine h.mono ?_
      rintro e w' ⟨rfl, rfl⟩
      generalize hGC : grownCap w (ts.length + 1) cap (nRen.t 9) = gc
      refine ⟨_, rfl, .inr ⟨w.heap.size, 0, gc, by rw [hl], ?_, ?_⟩, fun b e => .inr (by cases e; exact Nat.le_refl _), grown_same (grown_below' hdd) (World.grownBy_alloc _ _ _)⟩
      · rw [World.size_alloc]; exact Nat.lt_succ_self _
      · intro j hj
        rw [hl] at hj
        rw [ins_get ts name ts.length hi, Nat.zero_add]
        have hc := World.cell?_alloc_new w.drew ((ts.map Value.string ++ [Value.string name]).toArray ++ Builtin.zeroCells (Value.string ⟨#[]⟩).cells (gc - (ts.length + 1))) (nRen.t 9) j
        refine Eq.trans (Eq.trans ?_ hc) ?_
        · rfl
        · rw [Array.getElem?_append_left (by simp; omega)]
          simp only [List.getElem?_toArray]
          rw [List.getElem?_append]
          split
          · next h1 =>
            have h1' : j < ts.length := by simpa using h1
            rw [if_pos h1']
            simp [tv, h1']
          · next h1 =>
            have hjn : j = ts.length := by simp at h1; omega
            subst hjn
            simp
end Go.Proofs.Ytmcipciimnncmaa
/- (*shelf).pin. -/
namespace Go.Proofs.Ytmcipciimnncmaa
open Go.RowKit
/-- What pin leaves. -/
def PinRes (w : World) (sb mb m : Nat) (D : DataW Unit) (wd room tot : Int) (vc : Value) (ts : List ByteArray) (name : ByteArray) (e : Ending) (w' : World) : Prop :=
  (e = .returned (.int .i64 1) ∧ ¬ ((name.size : Int) = wd) ∧ Below w.heap.size w w') ∨
  (e = .returned (.int .i64 2) ∧ (name.size : Int) = wd ∧ 10 < (addT name ts).length ∧ Below w.heap.size w w') ∨
  (e = .returned (.int .i64 0) ∧ (name.size : Int) = wd ∧ (addT name ts).length ≤ 10 ∧ ∃ vc', Blk w' sb 70 #[.int .i64 wd, .int .i64 room, .int .i64 tot, .map (some mb), vc'] ∧ Reads w' vc' (addT name ts) ∧ w'.ownsMap Try.prog 9 itemElem mb m D ∧ w.heap.size ≤ w'.heap.size ∧ ∀ B', B' ≤ sb → (∀ g, vc.ownBlock = some g → B' ≤ g) → B' ≤ w.heap.size → Below B' w w')
theorem reads_far {w w' : World} {v : Value} {ts : List ByteArray} {b : Nat} (h : Reads w v ts) (hg : w.grownBy w' (some b)) (hn : v.ownBlock ≠ some b) : Reads w' v ts := by
  rcases h with h | ⟨c, off, cap, rfl, hl, hc⟩
  · exact .inl h
  · exact .inr ⟨c, off, cap, rfl, Nat.lt_of_lt_of_le hl hg.size, fun j hj => (hg.cell_far ⟨c, off + j, none⟩ hl (fun e => hn e)).trans (hc j hj)⟩
theorem addT_len (name : ByteArray) (ts : List ByteArray) (h : ¬ (cutN name ts < ts.length ∧ tv ts (cutN name ts) = name)) : addT name ts = ts.take (cutN name ts) ++ name :: ts.drop (cutN name ts) ∧ (addT name ts).length = ts.length + 1 := by
  have e : addT name ts = ts.take (cutN name ts) ++ name :: ts.drop (cutN name ts) := by rw [addT, if_neg h]
  refine ⟨e, ?_⟩
  rw [e]
  have := cutN_le name ts
  simp
  omega
set_option maxRecDepth 100000 in
set_option maxHeartbeats 1000000 in
theorem pin_any (sb mb m B : Nat) (D : DataW Unit) (wd room tot : Int) (vc : Value) (ts : List ByteArray) (name : ByteArray) (w : World) (hbox : Blk w sb 70 #[.int .i64 wd, .int .i64 room, .int .i64 tot, .map (some mb), vc]) (hmap : w.ownsMap Try.prog 9 itemElem mb m D) (hrow : w.ownsRow B 9 1 vc ts.length (ts.map Value.string)) (hne : sb ≠ mb) (hns : vc.ownBlock ≠ some sb) (hnm : vc.ownBlock ≠ some mb) (hA : Asc ts) (hl : ts.length ≤ 10) :
    Calls Try.prog 49 #[.pointer (some ⟨sb, 0, none⟩), .string name] w fun e w' => PinRes w sb mb m D wd room tot vc ts name e w' := by
  obtain ⟨ac, cc, rfl, _⟩ := row_form hrow
  have c0 : w.cell? ⟨sb, 0, none⟩ = some (.int .i64 wd) := hbox.cell 0
  have c4 : w.cell? ⟨sb, 4, none⟩ = some (.slice ac ts.length cc) := hbox.cell 4
  by_cases hsz : (name.size : Int) = wd
  case neg =>
    go_enter Try.func49, Try.ntmps49
    go_wp2
    go_ret
    exact .inl ⟨rfl, hsz, Below.refl _ _⟩
  have hkl := cutN_le name ts
  have HBX := hid hbox
  have HMP := hid hmap
  have HRW := hid hrow
  have HA := hid hA
  have d4 : ∀ n, (w.drewN n).cell? ⟨sb, 4, none⟩ = some (.slice ac ts.length cc) := fun n => c4
  have HSE : Hid (Calls Try.prog 64 #[.slice ac ts.length cc, .string name] w fun e w' => ∃ q : Bool, e = .returned (.tuple #[.int .i64 (cutN name ts), .bool q]) ∧ (q = true ↔ cutN name ts < ts.length ∧ tv ts (cutN name ts) = name) ∧ ∃ n, w' = w.drewN n) := by
    rcases hrow with ⟨_, ⟨e0, h0⟩ | ⟨g, cap, cur, e0, hg1, hg2, hnc, hmc, _⟩⟩
    · have e1 : ts = [] := List.eq_nil_of_length_eq_zero h0
      subst e1
      simp at e0
      obtain ⟨rfl, rfl⟩ := e0
      refine (search_none _ _ _ _).mono ?_
      rintro e w' ⟨rfl, rfl⟩
      exact ⟨false, by simp [cutN], by simp, 0, rfl⟩
    · cases e0
      refine (search_any g 0 cc ts name w hA (by omega) (fun j hj => by rw [Nat.zero_add, HRW.out.cellAt j (by omega)]; simp [tv, hj])).mono ?_
      rintro e w1 ⟨⟨q, rfl, hq⟩, n, rfl⟩
      exact ⟨q, rfl, hq, n, rfl⟩
  by_cases hin : cutN name ts < ts.length ∧ tv ts (cutN name ts) = name
  · have HAT : Hid (addT name ts = ts) := by show addT name ts = ts; rw [addT, if_pos hin]
    generalize cutN name ts = k at *
    clear hbox hmap hA hrow
    go_enter Try.func49, Try.ntmps49
    go_wp2_with fail
    refine HSE.out.mono ?_
    rintro e w1 ⟨q, rfl, hq, n, rfl⟩
    have hqt : q = true := hq.2 hin
    subst hqt
    clear hq hin
    go_wp2
    go_ret
    have bl : ∀ B', Below B' w (w.drewN n) := fun B' => below_drewN (Below.refl B' w) n
    refine .inr (.inr ⟨rfl, hsz, by rw [HAT.out]; exact hl, _, HBX.out.below (bl _), ?_, World.ownsMap.kept (w' := w.drewN n) HMP.out (grown_of_below (bl _)) (by simp), (bl 0).size, fun B' _ _ _ => bl B'⟩)
    rw [HAT.out]
    exact (Reads.of_row HRW.out).below (bl _)
  have HAT := hid (addT_len name ts hin)
  by_cases h10 : ts.length = 10
  · generalize cutN name ts = k at *
    have HL : Hid (10 < (addT name ts).length) := by show 10 < (addT name ts).length; rw [HAT.out.2]; omega
    have h10b : ((ts.length : Int) == 10) = true := by simp [h10]
    have HIN2 := hid hin
    clear hbox hmap hA hrow h10 hkl hl hin HAT HRW
    generalize ts.length = tl at *
    go_enter Try.func49, Try.ntmps49
    go_wp2_with fail
    refine HSE.out.mono ?_
    rintro e w1 ⟨q, rfl, hq, n, rfl⟩
    have hqf : q = false := by cases q; rfl; exact absurd (hq.1 rfl) HIN2.out
    subst hqf
    clear hq
    go_wp2
    go_ret
    exact .inr (.inl ⟨rfl, hsz, HL.out, below_drewN (Below.refl _ _) _⟩)
  have HIN := hid fun (W : World) vb a b c => insertRow_any (.slice ac ts.length cc) (cutN name ts) B vb ts name W a hkl (by omega) b c
  generalize cutN name ts = k at *
  clear hbox hmap hA hrow
  have h10' : ¬ ((ts.length : Int) = 10) := by omega
  go_enter Try.func49, Try.ntmps49
  go_wp2_with fail
  refine HSE.out.mono ?_
  rintro e w1 ⟨q, rfl, hq, n, rfl⟩
  have hqf : q = false := by cases q; rfl; exact absurd (hq.1 rfl) hin
  subst hqf
  clear hq
  have HRWn : Hid (∀ o, ((w.drewN n).alloc o).ownsRow B 9 1 (.slice ac ts.length cc) ts.length (ts.map Value.string)) := fun o => (Below.row (below_drewN (Below.refl _ w) n) HRW.out).alloc o
  have HNE : Hid ((Value.slice ac ts.length cc).ownBlock ≠ some w.heap.size) := fun e => by have := (HRW.out.lt _ e).2; omega
  have HNW := hid (Blk.new (w.drewN n) 9 #[.string name])
  have hdsz : (w.drewN n).heap.size = w.heap.size := rfl
  go_wp2_with fail
  refine (HIN.out _ _ (HRWn.out _) HNW.out HNE.out).mono ?_
  rintro e w2 ⟨v2, rfl, hrd, hob, hg⟩
  obtain ⟨a2, c2, rfl, _⟩ := hrd.form
  have hslt : sb < w.heap.size := HBX.out.lt
  have X2 := ((show Blk (w.drewN n) sb 70 _ from HBX.out).alloc (.cells #[.string name] 9)).kept hg (fun e => hns e.symm)
  have M2 := ((World.ownsMap.kept (w' := w.drewN n) HMP.out (grown_of_below (below_drewN (Below.refl _ w) n)) (by simp)).alloc (.cells #[.string name] 9)).kept hg (fun e => hnm e.symm)
  have q4 := X2.cell 4
  have f4 := X2.fz 4
  have hob2 : (Value.slice a2 (ts.take k ++ name :: ts.drop k).length c2).ownBlock ≠ some sb := fun e => by
    rcases hob _ e with h | h
    · exact hns h
    · have : w.heap.size + 1 ≤ sb := by simpa using h
      omega
  have gU := grownBy_setCellAt w2 sb 4 (.slice a2 (ts.take k ++ name :: ts.drop k).length c2)
  have X3 := hid (X2.set 4 (.slice a2 (ts.take k ++ name :: ts.drop k).length c2))
  have M3 := hid (M2.kept gU (fun e => hne (Option.some.inj e).symm))
  have hrd3 := hid (reads_far hrd gU hob2)
  have hsz2 := gU.size
  have hsz3 := hg.size
  rw [World.size_alloc] at hsz3
  have HBB : Hid (∀ B', B' ≤ sb → (∀ g', (Value.slice ac ts.length cc).ownBlock = some g' → B' ≤ g') → B' ≤ w.heap.size → Below B' w (w2.setCell ⟨sb, 4, none⟩ (.slice a2 (ts.take k ++ name :: ts.drop k).length c2))) := fun B' h1 h2 h3 =>
    (((below_drewN (Below.refl B' w) n).alloc h3 _).grown hg (by rw [World.size_alloc]; omega) h2).setCell (p := ⟨sb, 4, none⟩) h1 _
  have HAT2 := hid HAT.out.1
  have HAT3 := hid HAT.out.2
  clear hg hrd X2 M2 gU hob hob2
  generalize ts.take k ++ name :: ts.drop k = ts9 at *
  go_wp2
  go_ret
  refine .inr (.inr ⟨rfl, hsz, by rw [HAT3.out]; omega, _, X3.out, by rw [HAT2.out]; exact hrd3.out, M3.out, by omega, HBB.out⟩)
end Go.Proofs.Ytmcipciimnncmaa
/- impl.Pin. -/
namespace Go.Proofs.Ytmcipciimnncmaa
open Go.RowKit
theorem addT_mem {name : ByteArray} {ts : List ByteArray} {x : ByteArray} (h : x ∈ addT name ts) : x = name ∨ x ∈ ts := by
  unfold addT at h
  split at h
  · exact .inr h
  · rcases List.mem_append.1 h with h | h
    · exact .inr (List.mem_of_mem_take h)
    · rcases List.mem_cons.1 h with h | h
      · exact .inl h
      · exact .inr (List.mem_of_mem_drop h)
theorem addT_size {name : ByteArray} {ts : List ByteArray} {n : Nat} (hn : name.size ≤ n) (h : ∀ i, (tv ts i).size ≤ n) (i : Nat) : (tv (addT name ts) i).size ≤ n := by
  by_cases hi : i < (addT name ts).length
  · have hm : tv (addT name ts) i ∈ addT name ts := by simp [tv, hi]
    rcases addT_mem hm with e | e
    · rw [e]; exact hn
    · obtain ⟨k, hk, he⟩ := List.getElem_of_mem e
      have := h k
      rw [show tv ts k = tv (addT name ts) i by rw [← he]; simp [tv, hk]] at this
      exact this
  · have : tv (addT name ts) i = ByteArray.empty := by simp only [tv]; rw [List.getD_eq_getElem?_getD, List.getElem?_eq_none (by omega)]; rfl
    rw [this]; simp
set_option maxRecDepth 100000 in
set_option maxHeartbeats 2000000 in
theorem implPin_any (wd room : Int) (vi vp : Value) (its : Itms) (ts : List ByteArray) (name : ByteArray) (w : World) (hi : RdI w vi its) (hp : Reads w vp ts) (hli : its.length ≤ 1048576) (hlp : ts.length ≤ 1048576) (hsi : ∀ i, (itx its i).size ≤ 1048576) (hsp : ∀ i, (tv ts i).size ≤ 1048576) :
    Calls Try.prog 20 #[.agg #[.int .i64 wd, .int .i64 room, vi, vp], .string name] w fun e w' => ∃ wd' room' its' ts' code vi' vp', e = .returned (.tuple #[.agg #[.int .i64 wd', .int .i64 room', vi', vp'], .int .i64 code]) ∧ PinR wd room its ts name wd' room' its' ts' code ∧ StoreOwn w' (w.heap.size + 2) vi' vp' its' ts' ∧ Below w.heap.size w w' := by
  obtain ⟨ai, ci, rfl, hci⟩ := hi
  obtain ⟨ap, cp, rfl, _⟩ := hp.form
  have hi : RdI w (.slice ai its.length ci) its := ⟨ai, ci, rfl, hci⟩
  have hA := ((Below.refl w.heap.size w).alloc (Nat.le_refl _) (.cells #[.int .i64 wd, .int .i64 room, .slice ai its.length ci, .slice ap ts.length cp] 30)).alloc (by simp) (.cells #[.int .i64 0, .int .i64 0, .slice none 0 0, .slice none 0 0] 30)
  have hN7 := Blk.new (w.alloc (.cells #[.int .i64 wd, .int .i64 room, .slice ai its.length ci, .slice ap ts.length cp] 30)) 30 #[.int .i64 0, .int .i64 0, .slice none 0 0, .slice none 0 0]
  rw [World.size_alloc] at hN7
  have HN7 := hid hN7
  have HO := hid (openStore_any wd room _ _ its ts _ (hi.below hA) (hp.below hA) hli hlp hsi hsp)
  have HA := hid hA
  have HSI := hid hsi
  have HSP := hid hsp
  clear hi hp hA hN7 hsi hsp hci
  go_enter Try.func20, Try.ntmps20
  go_wp2_with fail
  refine HO.out.mono ?_
  rintro e w1 (⟨hn, rfl, hb1⟩ | ⟨hv, sb, mb, vc, rfl, hsh, hb1⟩)
  · have N7 := HN7.out.below hb1
    have B1 := HA.out.trans (hb1.mono (by simp; omega))
    have HF : Hid (PinR wd room its ts name 0 0 [] [] 1) := .inl ⟨fun h => hn h.1, rfl, rfl, rfl, rfl, rfl⟩
    have s9 := N7.store4 (.int .i64 0) (.int .i64 0) (.slice none 0 0) (.slice none 0 0)
    have s0 := s9.a0; have s1 := s9.a1; have s2 := s9.a2; have s3 := s9.a3
    have k0 := s9.f0; have k1 := s9.f1; have k2 := s9.f2; have k3 := s9.f3
    have Z := hid s9.z
    have BB := hid ((((B1.setCell (p := ⟨w.heap.size + 1, 0, none⟩) (by simp) (.int .i64 0)).setCell (p := ⟨w.heap.size + 1, 1, none⟩) (by simp) (.int .i64 0)).setCell (p := ⟨w.heap.size + 1, 2, none⟩) (by simp) (.slice none 0 0)).setCell (p := ⟨w.heap.size + 1, 3, none⟩) (by simp) (.slice none 0 0))
    clear s9
    clear N7 B1 hn hb1
    go_wp2
    refine bodyPost_ret (v := .tuple #[.agg #[.int .i64 0, .int .i64 0, .slice none 0 0, .slice none 0 0], .int .i64 1]) (by simp [results, Try.results20, go_sem, Z.out.cell]) rfl ⟨0, 0, [], [], 1, _, _, rfl, HF.out, StoreOwn.none _ _, BB.out⟩
  have N7 := HN7.out.below hb1
  have B1 := HA.out.trans (hb1.mono (by simp; omega))
  have hsbl := hsh.hs
  have hmbl := hsh.hm
  simp only [World.size_alloc] at hsbl hmbl
  have hrl : ∀ g, vc.ownBlock = some g → w.heap.size + 1 + 1 ≤ g := fun g e => by have := (hsh.row.lt g e).1; simpa using this
  have HUP := hid (pin_any sb mb its.length _ (mapI wd its its.length) wd room _ vc ts name w1 hsh.box hsh.map hsh.row hsh.ne hsh.ns hsh.nm (okSums_asc hv.sums) hv.pins)
  have HVAL := hid hv
  have hs7 := N7.lt
  have hslt := hsh.box.lt
  have hn7 := hid N7
  have hb7 := hid B1
  have HRL := hid hrl
  clear hsh hb1 N7 B1 hrl hv
  go_wp2_with fail
  refine HUP.out.mono ?_
  rintro e w2 (⟨rfl, hsz, hb2⟩ | ⟨rfl, hsz, hno, hb2⟩ | ⟨rfl, hsz, hle, vc', hbox, hrd, hmap, hgr, hbel⟩)
  · have HF : Hid (PinR wd room its ts name 0 0 [] [] 1) := .inl ⟨fun h => hsz h.2, rfl, rfl, rfl, rfl, rfl⟩
    have N2 := hn7.out.below hb2
    have B2 := hb7.out.trans (hb2.mono hb7.out.size)
    go_wp2_with fail
    refine (answer_no sb 1 _ (by decide)).mono ?_
    rintro e w3 ⟨rfl, hb3⟩
    have N3 := N2.below hb3
    have B3 := B2.trans (hb3.mono B2.size)
    have s9 := N3.store4 (.int .i64 0) (.int .i64 0) (.slice none 0 0) (.slice none 0 0)
    have s0 := s9.a0; have s1 := s9.a1; have s2 := s9.a2; have s3 := s9.a3
    have k0 := s9.f0; have k1 := s9.f1; have k2 := s9.f2; have k3 := s9.f3
    have Z := hid s9.z
    have BB := hid ((((B3.setCell (p := ⟨w.heap.size + 1, 0, none⟩) (by simp) (.int .i64 0)).setCell (p := ⟨w.heap.size + 1, 1, none⟩) (by simp) (.int .i64 0)).setCell (p := ⟨w.heap.size + 1, 2, none⟩) (by simp) (.slice none 0 0)).setCell (p := ⟨w.heap.size + 1, 3, none⟩) (by simp) (.slice none 0 0))
    clear s9
    clear N2 B2 N3 B3 hb2 hb3 hsz
    go_wp2
    refine bodyPost_ret (v := .tuple #[.agg #[.int .i64 0, .int .i64 0, .slice none 0 0, .slice none 0 0], .int .i64 1]) (by simp [results, Try.results20, go_sem, Z.out.cell]) rfl ⟨0, 0, [], [], 1, _, _, rfl, HF.out, StoreOwn.none _ _, BB.out⟩
  · have HF : Hid (PinR wd room its ts name 0 0 [] [] 2) := .inr (.inl ⟨⟨HVAL.out, hsz⟩, hno, rfl, rfl, rfl, rfl, rfl⟩)
    have N2 := hn7.out.below hb2
    have B2 := hb7.out.trans (hb2.mono hb7.out.size)
    go_wp2_with fail
    refine (answer_no sb 2 _ (by decide)).mono ?_
    rintro e w3 ⟨rfl, hb3⟩
    have N3 := N2.below hb3
    have B3 := B2.trans (hb3.mono B2.size)
    have s9 := N3.store4 (.int .i64 0) (.int .i64 0) (.slice none 0 0) (.slice none 0 0)
    have s0 := s9.a0; have s1 := s9.a1; have s2 := s9.a2; have s3 := s9.a3
    have k0 := s9.f0; have k1 := s9.f1; have k2 := s9.f2; have k3 := s9.f3
    have Z := hid s9.z
    have BB := hid ((((B3.setCell (p := ⟨w.heap.size + 1, 0, none⟩) (by simp) (.int .i64 0)).setCell (p := ⟨w.heap.size + 1, 1, none⟩) (by simp) (.int .i64 0)).setCell (p := ⟨w.heap.size + 1, 2, none⟩) (by simp) (.slice none 0 0)).setCell (p := ⟨w.heap.size + 1, 3, none⟩) (by simp) (.slice none 0 0))
    clear s9
    clear N2 B2 N3 B3 hb2 hb3 hsz hno
    go_wp2
    refine bodyPost_ret (v := .tuple #[.agg #[.int .i64 0, .int .i64 0, .slice none 0 0, .slice none 0 0], .int .i64 2]) (by simp [results, Try.results20, go_sem, Z.out.cell]) rfl ⟨0, 0, [], [], 2, _, _, rfl, HF.out, StoreOwn.none _ _, BB.out⟩
  · have hasc := sums_asc HVAL.out.each
    have hhas := fun x => (mapI_has wd its x its.length (Nat.le_refl _))
    rw [List.take_of_length_le (by rw [sumsL_len]; exact Nat.le_refl _)] at hhas
    have bel2 := hbel (w.heap.size + 2) (by omega) (fun g e => HRL.out g e) (by omega)
    have N2 := hn7.out.belowAt bel2 (by omega)
    have B2 := hb7.out.trans (bel2.mono (by omega))
    have hnsz : name.size ≤ 1048576 := by have h1 := of_decide_eq_true HVAL.out.width; omega
    have HAN := hid (answer_yes sb mb its.length vc' wd room _ its (addT name ts) (mapI wd its its.length) w2 hbox hmap (mapI_tidy wd its its.length) hasc (fun x => (hhas x).symm) (fun j hj z => mapI_at wd its hasc z its.length (Nat.le_refl _) j hj) hrd hli (by omega) (addT_size hnsz HSP.out) HSI.out)
    have HF : Hid (PinR wd room its ts name wd room its (addT name ts) 0) := .inr (.inr ⟨⟨HVAL.out, hsz⟩, hle, rfl, rfl, rfl, rfl, rfl⟩)
    have hn2 := hid N2
    have hb2 := hid B2
    have hs2 := N2.lt
    clear hbox hrd hmap hgr hbel bel2 N2 B2 hhas hasc hle hnsz
    generalize addT name ts = ts9 at *
    go_wp2_with fail
    refine HAN.out.mono ?_
    rintro e w3 ⟨v3, p3, rfl, so3, hb3⟩
    obtain ⟨a8, c8, rfl⟩ := row_any so3.items
    obtain ⟨b8, d8, rfl⟩ := row_any so3.pins
    have N3 := hn2.out.below hb3
    have B3 := hb2.out.trans (hb3.mono hb2.out.size)
    have s9 := N3.store4 (.int .i64 wd) (.int .i64 room) (.slice a8 its.length c8) (.slice b8 ts9.length d8)
    have s0 := s9.a0; have s1 := s9.a1; have s2 := s9.a2; have s3 := s9.a3
    have k0 := s9.f0; have k1 := s9.f1; have k2 := s9.f2; have k3 := s9.f3
    have Z := hid s9.z
    have BB := hid ((((B3.setCell (p := ⟨w.heap.size + 1, 0, none⟩) (by simp) (.int .i64 wd)).setCell (p := ⟨w.heap.size + 1, 1, none⟩) (by simp) (.int .i64 room)).setCell (p := ⟨w.heap.size + 1, 2, none⟩) (by simp) (.slice a8 its.length c8)).setCell (p := ⟨w.heap.size + 1, 3, none⟩) (by simp) (.slice b8 ts9.length d8))
    clear s9
    have GG := fun (x : World) (j : Nat) (y : Value) => grownBy_setCellAt x (w.heap.size + 1) j y
    have SO4 := hid ((((so3.kept (GG _ 0 (.int .i64 wd)) (by omega)).kept (GG _ 1 (.int .i64 room)) (by omega)).kept (GG _ 2 (.slice a8 its.length c8)) (by omega)).kept (GG _ 3 (.slice b8 ts9.length d8)) (by omega))
    clear GG so3 hb3 N3 B3
    go_wp2
    refine bodyPost_ret (v := .tuple #[.agg #[.int .i64 wd, .int .i64 room, .slice a8 its.length c8, .slice b8 ts9.length d8], .int .i64 0]) (by simp [results, Try.results20, go_sem, Z.out.cell]) rfl ⟨wd, room, its, ts9, 0, _, _, rfl, HF.out, SO4.out.base (by omega), BB.out⟩
end Go.Proofs.Ytmcipciimnncmaa
/- impl.isPeerCount. -/
namespace Go.Proofs.Ytmcipciimnncmaa
open Go.RowKit
set_option maxRecDepth 100000 in
theorem isPeerCount_any (n : Int) (w : World) :
    Calls Try.prog 50 #[.int .i64 n] w fun e w' => e = .returned (.bool (decide (1 ≤ n ∧ n ≤ 5))) ∧ w' = w := by
  by_cases h1 : 1 ≤ n
  · by_cases h2 : n ≤ 5
    · have e : decide (1 ≤ n ∧ n ≤ 5) = true := by simp [h1, h2]
      rw [e]
      go_enter Try.func50, Try.ntmps50
      go_wp2
      go_ret
      exact ⟨rfl, rfl⟩
    · have e : decide (1 ≤ n ∧ n ≤ 5) = false := by simp [h2]
      rw [e]
      go_enter Try.func50, Try.ntmps50
      go_wp2
      go_ret
      exact ⟨rfl, rfl⟩
  · have e : decide (1 ≤ n ∧ n ≤ 5) = false := by simp [h1]
    rw [e]
    go_enter Try.func50, Try.ntmps50
    go_wp2
    go_ret
    exact ⟨rfl, rfl⟩
end Go.Proofs.Ytmcipciimnncmaa
/- impl.NewFetch. -/
namespace Go.Proofs.Ytmcipciimnncmaa
open Go.RowKit
set_option maxRecDepth 100000 in
set_option maxHeartbeats 4000000 in
theorem implNewFetch_any (wd room : Int) (vi vp : Value) (its : Itms) (ts : List ByteArray) (name : ByteArray) (np : Int) (w : World) (hi : RdI w vi its) (hp : Reads w vp ts) (hli : its.length ≤ 1048576) (hlp : ts.length ≤ 1048576) (hsi : ∀ i, (itx its i).size ≤ 1048576) (hsp : ∀ i, (tv ts i).size ≤ 1048576) (hnm : name.size ≤ 1048576) :
    Calls Try.prog 22 #[.agg #[.int .i64 wd, .int .i64 room, vi, vp], .string name, .int .i64 np] w fun e w' => ∃ nm' wd' room' its' ts' n' vi' vp' vq', e = .returned (fval nm' 0 false wd' room' vi' vp' vq') ∧ NewR wd room its ts name np nm' wd' room' its' ts' n' ∧ FetchOwn w' (w.heap.size + 2) vi' vp' vq' its' ts' (newQ n') ∧ Below w.heap.size w w' := by
  have HPN0 := hid fun W h k => implPin_any wd room vi vp its ts name W h k hli hlp hsi hsp
  have HI := hid hi
  have HP := hid hp
  obtain ⟨ai, ci, rfl, _⟩ := hi
  obtain ⟨ap, cp, rfl, _⟩ := hp.form
  have hA := ((Below.refl w.heap.size w).alloc (Nat.le_refl _) (.cells #[.int .i64 wd, .int .i64 room, .slice ai its.length ci, .slice ap ts.length cp] 30)).alloc (by simp) (.cells fzero 43)
  have hN7 := Blk.new (w.alloc (.cells #[.int .i64 wd, .int .i64 room, .slice ai its.length ci, .slice ap ts.length cp] 30)) 43 fzero
  rw [World.size_alloc] at hN7
  have HN7 := hid hN7
  have HPN := hid (HPN0.out _ (HI.out.below hA) (HP.out.below hA))
  have HCL := hid fun W => stringsClone_any name W (by omega)
  have HA := hid hA
  obtain ⟨i0, hi0, hz0, hz1, hz2⟩ := info_parts Try.infoPeer
  clear hp hA hN7 hsi hsp HPN0 hnm
  go_enter Try.func22, Try.ntmps22
  go_wp2_with fail
  refine HPN.out.mono ?_
  rintro e w1 ⟨wd1, room1, its1, ts1, c, v1, p1, rfl, hR, so1, hb1⟩
  have N1 := HN7.out.below hb1
  have B1 := HA.out.trans (hb1.mono (by simp; omega))
  have hs1 := hb1.size
  simp only [World.size_alloc] at hs1 so1
  obtain ⟨a1, c1, rfl⟩ := row_any so1.items
  obtain ⟨a2, c2, rfl⟩ := row_any so1.pins
  have HSO := hid so1
  have HR := hid hR
  clear hb1 so1 hR
  by_cases hc : c = 0
  case neg =>
    have hcb : (c == 0) = false := by simpa using hc
    have HF : Hid (NewR wd room its ts name np ⟨#[]⟩ 0 0 [] [] 0) := ⟨_, _, _, _, _, HR.out, .inr ⟨fun h => hc h.1, rfl, rfl, rfl, rfl, rfl, rfl⟩⟩
    have N2 := N1.alloc (.cells #[.int .i64 wd1, .int .i64 room1, .slice a1 its1.length c1, .slice a2 ts1.length c2] 30)
    have B2 := B1.alloc (by omega) (.cells #[.int .i64 wd1, .int .i64 room1, .slice a1 its1.length c1, .slice a2 ts1.length c2] 30)
    have s := N2.store8 (.string ⟨#[]⟩) (.int .i64 0) (.bool false) (.int .i64 0) (.int .i64 0) (.slice none 0 0) (.slice none 0 0) (.slice none 0 0)
    obtain ⟨q0, k0, q1, k1, q2, k2, q3, k3, q4, k4, q5, k5, q6, k6, q7, k7⟩ := s
    have Z := hid (N2.set8 (.string ⟨#[]⟩) (.int .i64 0) (.bool false) (.int .i64 0) (.int .i64 0) (.slice none 0 0) (.slice none 0 0) (.slice none 0 0))
    have BB := hid (below_set8 B2 (b := w.heap.size + 1) (by omega) (Nat.le_refl _) (.string ⟨#[]⟩) (.int .i64 0) (.bool false) (.int .i64 0) (.int .i64 0) (.slice none 0 0) (.slice none 0 0) (.slice none 0 0))
    clear N1 B1 N2 B2
    go_wp2
    rw [set8_def]
    refine bodyPost_ret (v := .agg fzero) (by simp [results, Try.results22, go_sem, Z.out.cell]) rfl ⟨⟨#[]⟩, 0, 0, [], [], 0, _, _, _, rfl, HF.out, FetchOwn.none _ _, BB.out⟩
  subst hc
  by_cases hnp : 1 ≤ np ∧ np ≤ 5
  case neg =>
    have HLN := hid fun W => isPeerCount_any np W
    have hdn : decide (1 ≤ np ∧ np ≤ 5) = false := by simpa using hnp
    rw [hdn] at HLN
    have HF : Hid (NewR wd room its ts name np ⟨#[]⟩ 0 0 [] [] 0) := ⟨_, _, _, _, _, HR.out, .inr ⟨fun h => hnp h.2, rfl, rfl, rfl, rfl, rfl, rfl⟩⟩
    have N2 := N1.alloc (.cells #[.int .i64 wd1, .int .i64 room1, .slice a1 its1.length c1, .slice a2 ts1.length c2] 30)
    have B2 := B1.alloc (by omega) (.cells #[.int .i64 wd1, .int .i64 room1, .slice a1 its1.length c1, .slice a2 ts1.length c2] 30)
    have s := N2.store8 (.string ⟨#[]⟩) (.int .i64 0) (.bool false) (.int .i64 0) (.int .i64 0) (.slice none 0 0) (.slice none 0 0) (.slice none 0 0)
    obtain ⟨q0, k0, q1, k1, q2, k2, q3, k3, q4, k4, q5, k5, q6, k6, q7, k7⟩ := s
    have Z := hid (N2.set8 (.string ⟨#[]⟩) (.int .i64 0) (.bool false) (.int .i64 0) (.int .i64 0) (.slice none 0 0) (.slice none 0 0) (.slice none 0 0))
    have BB := hid (below_set8 B2 (b := w.heap.size + 1) (by omega) (Nat.le_refl _) (.string ⟨#[]⟩) (.int .i64 0) (.bool false) (.int .i64 0) (.int .i64 0) (.slice none 0 0) (.slice none 0 0) (.slice none 0 0))
    clear N1 B1 N2 B2 hdn
    go_wp2_with fail
    refine (HLN.out _).mono ?_
    rintro e w2 ⟨rfl, rfl⟩
    go_wp2
    rw [set8_def]
    refine bodyPost_ret (v := .agg fzero) (by simp [results, Try.results22, go_sem, Z.out.cell]) rfl ⟨⟨#[]⟩, 0, 0, [], [], 0, _, _, _, rfl, HF.out, FetchOwn.none _ _, BB.out⟩
  have HLN := hid fun W => isPeerCount_any np W
  have hdn : decide (1 ≤ np ∧ np ≤ 5) = true := by simpa using hnp
  rw [hdn] at HLN
  obtain ⟨hn1, hn5⟩ := hnp
  obtain ⟨n, rfl⟩ := Int.eq_ofNat_of_zero_le (show 0 ≤ np by omega)
  have HF : Hid (NewR wd room its ts name (n : Int) name wd1 room1 its1 ts1 n) := ⟨_, _, _, _, _, HR.out, .inl ⟨rfl, ⟨hn1, hn5⟩, rfl, rfl, rfl, rfl, rfl, rfl⟩⟩
  have hX := Blk.new w1 30 #[.int .i64 wd1, .int .i64 room1, .slice a1 its1.length c1, .slice a2 ts1.length c2]
  have hw2 : (w1.alloc (.cells #[.int .i64 wd1, .int .i64 room1, .slice a1 its1.length c1, .slice a2 ts1.length c2] 30)).heap.size = w1.heap.size + 1 := World.size_alloc _ _
  have HNX := hid (N1.alloc (.cells #[.int .i64 wd1, .int .i64 room1, .slice a1 its1.length c1, .slice a2 ts1.length c2] 30))
  have HBX := hid (B1.alloc (by omega) (.cells #[.int .i64 wd1, .int .i64 room1, .slice a1 its1.length c1, .slice a2 ts1.length c2] 30))
  have HSX := hid (HSO.out.below ((Below.refl w1.heap.size w1).alloc (Nat.le_refl _) (.cells #[.int .i64 wd1, .int .i64 room1, .slice a1 its1.length c1, .slice a2 ts1.length c2] 30)))
  have HLI := hid fun g (e : (Value.slice a1 its1.length c1).ownBlock = some g) => HSO.out.items.lt g e
  have HLP := hid fun g (e : (Value.slice a2 ts1.length c2).ownBlock = some g) => HSO.out.pins.lt g e
  have HX := hid hX
  have hS0 : (w1.alloc (.cells #[.int .i64 wd1, .int .i64 room1, .slice a1 its1.length c1, .slice a2 ts1.length c2] 30)).drew.cell? ⟨w1.heap.size, 0, none⟩ = some (.int .i64 wd1) ∧ (w1.alloc (.cells #[.int .i64 wd1, .int .i64 room1, .slice a1 its1.length c1, .slice a2 ts1.length c2] 30)).drew.cell? ⟨w1.heap.size, 1, none⟩ = some (.int .i64 room1) ∧ (w1.alloc (.cells #[.int .i64 wd1, .int .i64 room1, .slice a1 its1.length c1, .slice a2 ts1.length c2] 30)).drew.cell? ⟨w1.heap.size, 2, none⟩ = some (.slice a1 its1.length c1) ∧ (w1.alloc (.cells #[.int .i64 wd1, .int .i64 room1, .slice a1 its1.length c1, .slice a2 ts1.length c2] 30)).drew.cell? ⟨w1.heap.size, 3, none⟩ = some (.slice a2 ts1.length c2) := ⟨hX.cell 0, hX.cell 1, hX.cell 2, hX.cell 3⟩
  have hec := enters_of Try.func46 (by kernel_rfl) rfl
  clear N1 B1 hdn hX
  go_upto_region 4 with (go_at_call 50; refine (HLN.out _).mono ?_; rintro e w2 ⟨rfl, rfl⟩)
  go_cut [9] from 24 to 27 (fun s9 wx => ∃ fb, s9 = .pointer (some ⟨fb, 0, none⟩) ∧ Blk wx fb 43 #[.string name, .int .i64 0, .bool false, .int .i64 wd1, .int .i64 room1, .slice a1 its1.length c1, .slice a2 ts1.length c2, .slice none 0 0] ∧ w1.heap.size + 1 ≤ fb ∧ Below (w1.heap.size + 1) (w1.alloc (.cells #[.int .i64 wd1, .int .i64 room1, .slice a1 its1.length c1, .slice a2 ts1.length c2] 30)) wx)
  case first =>
    refine wp_region_held (S := fun w' => w'.cell? ⟨w1.heap.size, 0, none⟩ = some (.int .i64 wd1) ∧ w'.cell? ⟨w1.heap.size, 1, none⟩ = some (.int .i64 room1) ∧ w'.cell? ⟨w1.heap.size, 2, none⟩ = some (.slice a1 its1.length c1) ∧ w'.cell? ⟨w1.heap.size, 3, none⟩ = some (.slice a2 ts1.length c2)) (by kernel_rfl) ?_
    change wpAnyH _ _ _ _ _ _ _ _ (World.drew _)
    refine wpAnyH_take (i := 0) (v := .string name) rfl (by kernel_rfl) (by kernel_rfl) (by kernel_rfl) (fun _ _ _ h => h) (.inl ⟨rfl, fun w' hS => by obtain ⟨s1, s2, s3, s4⟩ := hS; go_simp⟩) hS0 ?_
    refine wpAnyH_take (i := 2) (v := .agg #[.int .i64 wd1, .int .i64 room1, .slice a1 its1.length c1, .slice a2 ts1.length c2]) rfl (by kernel_rfl) (by kernel_rfl) (by kernel_rfl) (fun _ _ _ h => h) (.inl ⟨rfl, fun w' hS => by obtain ⟨s1, s2, s3, s4⟩ := hS; go_simp⟩) hS0 ?_
    refine held_two 1 4 (by kernel_rfl) ?A ?B
    case A =>
      refine op_calls (f := 46) (args := #[.string name]) rfl rfl (by go_simp) (HCL.out _) ?_
      rintro e w5 ⟨rfl, hb5⟩
      have hb5' : Below (w1.alloc (.cells #[.int .i64 wd1, .int .i64 room1, .slice a1 its1.length c1, .slice a2 ts1.length c2] 30)).heap.size (w1.alloc (.cells #[.int .i64 wd1, .int .i64 room1, .slice a1 its1.length c1, .slice a2 ts1.length c2] 30)) w5 := ⟨hb5.os, hb5.tape, hb5.output, hb5.size, hb5.block⟩
      have X5 := HX.out.below hb5'
      have hs5 := hb5'.size
      rw [World.size_alloc] at hs5
      have hS5 : w5.cell? ⟨w1.heap.size, 0, none⟩ = some (.int .i64 wd1) ∧ w5.cell? ⟨w1.heap.size, 1, none⟩ = some (.int .i64 room1) ∧ w5.cell? ⟨w1.heap.size, 2, none⟩ = some (.slice a1 its1.length c1) ∧ w5.cell? ⟨w1.heap.size, 3, none⟩ = some (.slice a2 ts1.length c2) := ⟨X5.cell 0, X5.cell 1, X5.cell 2, X5.cell 3⟩
      have X6 := X5.alloc (.cells fzero 43)
      have X7 := X5.alloc (.cells #[.string name, .int .i64 0, .bool false, .int .i64 wd1, .int .i64 room1, .slice a1 its1.length c1, .slice a2 ts1.length c2, .slice none 0 0] 43)
      have hS6 : (w5.alloc (.cells fzero 43)).cell? ⟨w1.heap.size, 0, none⟩ = some (.int .i64 wd1) ∧ (w5.alloc (.cells fzero 43)).cell? ⟨w1.heap.size, 1, none⟩ = some (.int .i64 room1) ∧ (w5.alloc (.cells fzero 43)).cell? ⟨w1.heap.size, 2, none⟩ = some (.slice a1 its1.length c1) ∧ (w5.alloc (.cells fzero 43)).cell? ⟨w1.heap.size, 3, none⟩ = some (.slice a2 ts1.length c2) := ⟨X6.cell 0, X6.cell 1, X6.cell 2, X6.cell 3⟩
      have hS7 : (w5.alloc (.cells #[.string name, .int .i64 0, .bool false, .int .i64 wd1, .int .i64 room1, .slice a1 its1.length c1, .slice a2 ts1.length c2, .slice none 0 0] 43)).cell? ⟨w1.heap.size, 0, none⟩ = some (.int .i64 wd1) ∧ (w5.alloc (.cells #[.string name, .int .i64 0, .bool false, .int .i64 wd1, .int .i64 room1, .slice a1 its1.length c1, .slice a2 ts1.length c2, .slice none 0 0] 43)).cell? ⟨w1.heap.size, 1, none⟩ = some (.int .i64 room1) ∧ (w5.alloc (.cells #[.string name, .int .i64 0, .bool false, .int .i64 wd1, .int .i64 room1, .slice a1 its1.length c1, .slice a2 ts1.length c2, .slice none 0 0] 43)).cell? ⟨w1.heap.size, 2, none⟩ = some (.slice a1 its1.length c1) ∧ (w5.alloc (.cells #[.string name, .int .i64 0, .bool false, .int .i64 wd1, .int .i64 room1, .slice a1 its1.length c1, .slice a2 ts1.length c2, .slice none 0 0] 43)).cell? ⟨w1.heap.size, 3, none⟩ = some (.slice a2 ts1.length c2) := ⟨X7.cell 0, X7.cell 1, X7.cell 2, X7.cell 3⟩
      have BB := hid (((Below.refl (w1.heap.size + 1) (w1.alloc (.cells #[.int .i64 wd1, .int .i64 room1, .slice a1 its1.length c1, .slice a2 ts1.length c2] 30))).trans (hb5'.mono (by simp))).alloc (by omega) (.cells #[.string name, .int .i64 0, .bool false, .int .i64 wd1, .int .i64 room1, .slice a1 its1.length c1, .slice a2 ts1.length c2, .slice none 0 0] 43))
      refine ⟨_, rfl, hS5, ?_⟩
      refine wpAnyH_take (i := 3) (v := .agg #[.string name, .int .i64 0, .bool false, .int .i64 wd1, .int .i64 room1, .slice a1 its1.length c1, .slice a2 ts1.length c2, .slice none 0 0]) rfl (by kernel_rfl) (by kernel_rfl) (by kernel_rfl) (fun _ _ _ h => h) (.inl ⟨rfl, fun w' hS => by obtain ⟨s1, s2, s3, s4⟩ := hS; go_simp⟩) hS5 ?_
      refine held_one 4 (by kernel_rfl) (op_value (v := .pointer (some ⟨w5.heap.size, 0, none⟩)) (w' := w5.alloc (.cells fzero 43)) rfl rfl (by go_simp) ⟨hS6, ?_⟩)
      refine held_one 5 (by kernel_rfl) (op_skip (w' := w5.alloc (.cells #[.string name, .int .i64 0, .bool false, .int .i64 wd1, .int .i64 room1, .slice a1 its1.length c1, .slice a2 ts1.length c2, .slice none 0 0] 43)) rfl rfl (by go_simp) ⟨hS7, wpAnyH_done (by kernel_rfl) ?_ _⟩)
      clear hS0 hS5 hS6 hS7 X5 X6 X7 hb5 hb5'
      go_simp
      go_wp2_with fail
      go_meet
      exact ⟨w5.heap.size, rfl, Blk.new w5 43 _, by omega, BB.out⟩
    case B =>
      have Y0 := HX.out.alloc (.cells fzero 43)
      have hSb : ((w1.alloc (.cells #[.int .i64 wd1, .int .i64 room1, .slice a1 its1.length c1, .slice a2 ts1.length c2] 30)).alloc (.cells fzero 43)).drew.cell? ⟨w1.heap.size, 0, none⟩ = some (.int .i64 wd1) ∧ ((w1.alloc (.cells #[.int .i64 wd1, .int .i64 room1, .slice a1 its1.length c1, .slice a2 ts1.length c2] 30)).alloc (.cells fzero 43)).drew.cell? ⟨w1.heap.size, 1, none⟩ = some (.int .i64 room1) ∧ ((w1.alloc (.cells #[.int .i64 wd1, .int .i64 room1, .slice a1 its1.length c1, .slice a2 ts1.length c2] 30)).alloc (.cells fzero 43)).drew.cell? ⟨w1.heap.size, 2, none⟩ = some (.slice a1 its1.length c1) ∧ ((w1.alloc (.cells #[.int .i64 wd1, .int .i64 room1, .slice a1 its1.length c1, .slice a2 ts1.length c2] 30)).alloc (.cells fzero 43)).drew.cell? ⟨w1.heap.size, 3, none⟩ = some (.slice a2 ts1.length c2) := ⟨Y0.cell 0, Y0.cell 1, Y0.cell 2, Y0.cell 3⟩
      refine op_value (v := .pointer (some ⟨w1.heap.size + 1, 0, none⟩)) (w' := ((w1.alloc (.cells #[.int .i64 wd1, .int .i64 room1, .slice a1 its1.length c1, .slice a2 ts1.length c2] 30)).alloc (.cells fzero 43)).drew) rfl rfl (by go_simp) ⟨hSb, ?_⟩
      refine held_one 1 (by kernel_rfl) (op_calls (f := 46) (args := #[.string name]) rfl rfl (by go_simp) (HCL.out _) ?_)
      rintro e w5 ⟨rfl, hb5⟩
      have hb5' : Below ((w1.alloc (.cells #[.int .i64 wd1, .int .i64 room1, .slice a1 its1.length c1, .slice a2 ts1.length c2] 30)).alloc (.cells fzero 43)).heap.size ((w1.alloc (.cells #[.int .i64 wd1, .int .i64 room1, .slice a1 its1.length c1, .slice a2 ts1.length c2] 30)).alloc (.cells fzero 43)) w5 := ⟨hb5.os, hb5.tape, hb5.output, hb5.size, hb5.block⟩
      have X5 := Y0.below hb5'
      have N0 := Blk.new (w1.alloc (.cells #[.int .i64 wd1, .int .i64 room1, .slice a1 its1.length c1, .slice a2 ts1.length c2] 30)) 43 fzero
      rw [World.size_alloc] at N0
      have N5 := N0.below hb5'
      have s := N5.store8 (.string name) (.int .i64 0) (.bool false) (.int .i64 wd1) (.int .i64 room1) (.slice a1 its1.length c1) (.slice a2 ts1.length c2) (.slice none 0 0)
      obtain ⟨q0, k0, q1, k1, q2, k2, q3, k3, q4, k4, q5, k5, q6, k6, q7, k7⟩ := s
      have Z := hid (N5.set8 (.string name) (.int .i64 0) (.bool false) (.int .i64 wd1) (.int .i64 room1) (.slice a1 its1.length c1) (.slice a2 ts1.length c2) (.slice none 0 0))
      have hne : w1.heap.size ≠ w1.heap.size + 1 := by omega
      have X6 := X5.kept (grown_set8 w5 (w1.heap.size + 1) (.string name) (.int .i64 0) (.bool false) (.int .i64 wd1) (.int .i64 room1) (.slice a1 its1.length c1) (.slice a2 ts1.length c2) (.slice none 0 0)) (fun e => hne (Option.some.inj e))
      have hS5 : w5.cell? ⟨w1.heap.size, 0, none⟩ = some (.int .i64 wd1) ∧ w5.cell? ⟨w1.heap.size, 1, none⟩ = some (.int .i64 room1) ∧ w5.cell? ⟨w1.heap.size, 2, none⟩ = some (.slice a1 its1.length c1) ∧ w5.cell? ⟨w1.heap.size, 3, none⟩ = some (.slice a2 ts1.length c2) := ⟨X5.cell 0, X5.cell 1, X5.cell 2, X5.cell 3⟩
      have hS6 : (set8 w5 (w1.heap.size + 1) (.string name) (.int .i64 0) (.bool false) (.int .i64 wd1) (.int .i64 room1) (.slice a1 its1.length c1) (.slice a2 ts1.length c2) (.slice none 0 0)).cell? ⟨w1.heap.size, 0, none⟩ = some (.int .i64 wd1) ∧ (set8 w5 (w1.heap.size + 1) (.string name) (.int .i64 0) (.bool false) (.int .i64 wd1) (.int .i64 room1) (.slice a1 its1.length c1) (.slice a2 ts1.length c2) (.slice none 0 0)).cell? ⟨w1.heap.size, 1, none⟩ = some (.int .i64 room1) ∧ (set8 w5 (w1.heap.size + 1) (.string name) (.int .i64 0) (.bool false) (.int .i64 wd1) (.int .i64 room1) (.slice a1 its1.length c1) (.slice a2 ts1.length c2) (.slice none 0 0)).cell? ⟨w1.heap.size, 2, none⟩ = some (.slice a1 its1.length c1) ∧ (set8 w5 (w1.heap.size + 1) (.string name) (.int .i64 0) (.bool false) (.int .i64 wd1) (.int .i64 room1) (.slice a1 its1.length c1) (.slice a2 ts1.length c2) (.slice none 0 0)).cell? ⟨w1.heap.size, 3, none⟩ = some (.slice a2 ts1.length c2) := ⟨X6.cell 0, X6.cell 1, X6.cell 2, X6.cell 3⟩
      have BB := hid (below_set8 (((Below.refl (w1.heap.size + 1) (w1.alloc (.cells #[.int .i64 wd1, .int .i64 room1, .slice a1 its1.length c1, .slice a2 ts1.length c2] 30))).alloc (by simp) (.cells fzero 43)).trans (hb5'.mono (by simp))) (b := w1.heap.size + 1) (Nat.le_refl _) (by simp) (.string name) (.int .i64 0) (.bool false) (.int .i64 wd1) (.int .i64 room1) (.slice a1 its1.length c1) (.slice a2 ts1.length c2) (.slice none 0 0))
      refine ⟨_, rfl, hS5, ?_⟩
      refine wpAnyH_take (i := 3) (v := .agg #[.string name, .int .i64 0, .bool false, .int .i64 wd1, .int .i64 room1, .slice a1 its1.length c1, .slice a2 ts1.length c2, .slice none 0 0]) rfl (by kernel_rfl) (by kernel_rfl) (by kernel_rfl) (fun _ _ _ h => h) (.inl ⟨rfl, fun w' hS => by obtain ⟨s1, s2, s3, s4⟩ := hS; go_simp⟩) hS5 ?_
      refine held_one 5 (by kernel_rfl) (op_skip (w' := set8 w5 (w1.heap.size + 1) (.string name) (.int .i64 0) (.bool false) (.int .i64 wd1) (.int .i64 room1) (.slice a1 its1.length c1) (.slice a2 ts1.length c2) (.slice none 0 0)) rfl rfl (by unfold set8; go_simp) ⟨hS6, wpAnyH_done (by kernel_rfl) ?_ _⟩)
      clear hS0 hSb hS5 hS6 X5 X6 hb5 hb5' N0 N5 Y0 q0 q1 q2 q3 q4 q5 q6 q7 k0 k1 k2 k3 k4 k5 k6 k7
      go_simp
      go_wp2_with fail
      go_meet
      exact ⟨w1.heap.size + 1, rfl, Z.out, Nat.le_refl _, BB.out⟩
  case rest =>
    obtain ⟨fb, rfl, hFB, hfb, hbw⟩ := hcut
    have hbw' : Below (w1.alloc (.cells #[.int .i64 wd1, .int .i64 room1, .slice a1 its1.length c1, .slice a2 ts1.length c2] 30)).heap.size (w1.alloc (.cells #[.int .i64 wd1, .int .i64 room1, .slice a1 its1.length c1, .slice a2 ts1.length c2] 30)) wc := by rw [World.size_alloc]; exact hbw
    have hsc := hbw.size
    rw [hw2] at hsc
    have HNR := hid (HNX.out.below hbw')
    have HBR := hid (HBX.out.trans (hbw'.mono HBX.out.size))
    have HSR := hid (HSX.out.below hbw')
    have HFB := hid hFB
    have hfl := hFB.lt
    clear hFB hbw hbw' hS0 HX
    go_wp2
    go_loopw [29] (fun i wr => ∃ (k : Nat) (v : Value), k ≤ n ∧ i = .int .i64 k ∧ Blk wr fb 43 #[.string name, .int .i64 0, .bool false, .int .i64 wd1, .int .i64 room1, .slice a1 its1.length c1, .slice a2 ts1.length c2, v] ∧ wr.ownsRow wc.heap.size 75 5 v k (cellsQ (newQ k)) ∧ wc.grownBy wr (some fb)) (fun i _ => n - (intOf i).toNat)
    case atStart => exact ⟨0, _, Nat.zero_le _, rfl, HFB.out, World.ownsRow_nil _ _ _ _, grown_refl2 _ _⟩
    case round =>
      obtain ⟨k, v, hk, rfl, hbx, hrow, hg⟩ := hrel
      have hgs := hg.size
      by_cases hlt : k < n
      · have l0 : ∀ o, (wr.alloc o).cell? ⟨fb, 7, none⟩ = some v := fun o => (hbx.alloc o).cell 7
        have l1 : wr.cell? ⟨fb, 7, none⟩ = some v := hbx.cell 7
        have HK := hid (newQ_succ k)
        go_wp2_with (at_builtin; refine wpList_append_own _ rfl _ _ 41 rfl wc.heap.size 75 i0 (.agg #[.int .i64 0, .int .i64 0, .int .i64 0, .string ⟨#[]⟩, .slice none 0 0]) 5 64 Try.underlying41 hi0 hz0 hz1 hz2 rfl (by decide) _ _ _ rfl (hrow.alloc _) ⟨_, 0, none⟩ 1 1 [.int .i64 0, .int .i64 0, .int .i64 (-1), .string ⟨#[]⟩, .slice none 0 0] rfl rfl (five_new _ _ _ _ _ _ _) (by simp [Value.oneCell']) (by unfold maxLen; omega) (by omega) (by simp; omega) ?_; intro v' w6 hown' hgrow _; obtain ⟨av, cv, rfl⟩ := row_any hown'; obtain ⟨hb6, ho6, hg6⟩ := field_stored (c := 7) hbx hrow (by omega) hown' hgrow; have l6 : w6.cell? ⟨fb, 7, none⟩ = some v := hb6.cell 7; have f6 := hb6.fz 7)
        refine ⟨⟨k + 1, _, by omega, by go_num, hb6.set 7 _, by rw [HK.out]; exact ho6, hg6 _ hg rfl⟩, by simp [intOf]; omega⟩
      · obtain rfl : n = k := by omega
        have c0 : wr.cell? ⟨fb, 0, none⟩ = some (.string name) := hbx.cell 0
        have c1' : wr.cell? ⟨fb, 1, none⟩ = some (.int .i64 0) := hbx.cell 1
        have c2' : wr.cell? ⟨fb, 2, none⟩ = some (.bool false) := hbx.cell 2
        have c3 : wr.cell? ⟨fb, 3, none⟩ = some (.int .i64 wd1) := hbx.cell 3
        have c4 : wr.cell? ⟨fb, 4, none⟩ = some (.int .i64 room1) := hbx.cell 4
        have c5 : wr.cell? ⟨fb, 5, none⟩ = some (.slice a1 its1.length c1) := hbx.cell 5
        have c6 : wr.cell? ⟨fb, 6, none⟩ = some (.slice a2 ts1.length c2) := hbx.cell 6
        have c7 : wr.cell? ⟨fb, 7, none⟩ = some v := hbx.cell 7
        have hne : w.heap.size + 1 ≠ fb := by omega
        have NR := HNR.out.kept hg (fun e => hne (Option.some.inj e))
        have s := NR.store8 (.string name) (.int .i64 0) (.bool false) (.int .i64 wd1) (.int .i64 room1) (.slice a1 its1.length c1) (.slice a2 ts1.length c2) v
        obtain ⟨q0, k0, q1, k1, q2, k2, q3, k3, q4, k4, q5, k5, q6, k6, q7, k7⟩ := s
        have Z := hid (NR.set8 (.string name) (.int .i64 0) (.bool false) (.int .i64 wd1) (.int .i64 room1) (.slice a1 its1.length c1) (.slice a2 ts1.length c2) v)
        have GG := grown_set8 wr (w.heap.size + 1) (.string name) (.int .i64 0) (.bool false) (.int .i64 wd1) (.int .i64 room1) (.slice a1 its1.length c1) (.slice a2 ts1.length c2) v
        have BB := hid (below_set8 (HBR.out.grown hg (by omega) (fun g e => by cases e; omega)) (b := w.heap.size + 1) (by omega) (Nat.le_refl _) (.string name) (.int .i64 0) (.bool false) (.int .i64 wd1) (.int .i64 room1) (.slice a1 its1.length c1) (.slice a2 ts1.length c2) v)
        have SS := HSR.out.same (fun g e => (GG.block g (by have := HLI.out g e; omega) (fun e2 => by have := HLI.out g e; have := Option.some.inj e2; omega)).trans (hg.block g (by have := HLI.out g e; omega) (fun e2 => by have := HLI.out g e; have := Option.some.inj e2; omega))) (fun g e => (GG.block g (by have := HLP.out g e; omega) (fun e2 => by have := HLP.out g e; have := Option.some.inj e2; omega)).trans (hg.block g (by have := HLP.out g e; omega) (fun e2 => by have := HLP.out g e; have := Option.some.inj e2; omega)))
        have PP := newQ_own (row_far hrow GG (fun e => by have := (hrow.lt _ e).1; omega))
        have FO : Hid (FetchOwn (set8 wr (w.heap.size + 1) (.string name) (.int .i64 0) (.bool false) (.int .i64 wd1) (.int .i64 room1) (.slice a1 its1.length c1) (.slice a2 ts1.length c2) v) (w.heap.size + 2) (.slice a1 its1.length c1) (.slice a2 ts1.length c2) v its1 ts1 (newQ n)) :=
          ⟨SS.base (by omega), PP.base (by omega), fun g e h => by have h1 := (HLI.out g e).2; have h2 := (hrow.lt g (newQ_blk h)).1; omega, fun g e h => by have h1 := (HLP.out g e).2; have h2 := (hrow.lt g (newQ_blk h)).1; omega⟩
        clear hbx hrow hg NR GG SS PP
        obtain ⟨a8, c8, rfl⟩ : ∃ a c, v = .slice a n c := by obtain ⟨a, c, e⟩ := row_any FO.out.peers.row; rw [newQ_len] at e; exact ⟨a, c, e⟩
        go_wp2
        rw [set8_def]
        refine bodyPost_ret (v := fval name 0 false wd1 room1 (.slice a1 its1.length c1) (.slice a2 ts1.length c2) (.slice a8 n c8)) (by simp [results, Try.results22, go_sem, Z.out.cell]) rfl ⟨name, wd1, room1, its1, ts1, n, _, _, _, rfl, HF.out, FO.out, BB.out⟩
end Go.Proofs.Ytmcipciimnncmaa
