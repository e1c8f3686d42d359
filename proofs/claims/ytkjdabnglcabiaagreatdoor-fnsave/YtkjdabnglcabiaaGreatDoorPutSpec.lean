/- spec.Put. -/
import Derived.Test.YtkjdabnglcabiaaGreatDoorShort
import Derived.Test.YtkjdabnglcabiaaGreatDoorAwaySpec
import Derived.Test.YtkjdabnglcabiaaGreatDoorPutImpl
import Derived.Test.YtkjdabnglcabiaaGreatDoorNeedSpec
import Derived.Test.YtkjdabnglcabiaaGreatDoorAddSpec
namespace Go.Proofs.YtkjdabnglcabiaaGreatDoor
open Go.RowKit
theorem cutI_is {wd : Int} {a : Itms} {s : ByteArray} {q : Nat} (hA : AscI wd a) (hq : q ≤ a.length) (h1 : ∀ j, j < q → tlt (sumX wd (itx a j)) s = true) (h2 : q < a.length → tlt (sumX wd (itx a q)) s = false) : q = cutI wd s a := by
 have e : ∀ j, j < a.length → tv (a.map fun p => sumX wd p.1) j = sumX wd (itx a j) := fun j hj => by simp [tv, itx, hj]
 have hl := cutN_le s (a.map fun p => sumX wd p.1)
 rw [List.length_map] at hl
 unfold cutI
 rcases Nat.lt_trichotomy q (cutN s (a.map fun p => sumX wd p.1)) with h | h | h
 ·have h3 := cut_below s _ q h
  rw [e q (by omega), h2 (by omega)] at h3
  cases h3
 ·exact h
 ·have h3 := cut_above s _ hA (cutN s (a.map fun p => sumX wd p.1)) (Nat.le_refl _) (by simp; omega)
  rw [e _ (by omega), h1 _ h] at h3
  cases h3
theorem row_no_blk {w : World} {B size n : Nat} {e T : TypeId} {v : Value} {xs : List Value} {cs : Array Value} {b : Nat} (h : w.ownsRow B e size v n xs) (k : Blk w b T cs) (hne : e ≠ T) (hb : v.ownBlock = some b) : False := by
 obtain ⟨_, ⟨e1, _⟩ | ⟨g, cap, cur, e1, _, e3, _⟩⟩ := h
 ·subst e1; cases hb
 ·subst e1
  obtain rfl : g = b := Option.some.inj hb
  have h2 : w.heap[g]? = some (.cells cs T (0, 0)) := k
  rw [e3] at h2
  exact hne (Obj.cells.inj (Option.some.inj h2)).2.1
/-- append of nothing onto a row of items. -/
theorem wp_append_nilI {o : Oper} {a : Act} {w : World} {K : Act → World → Prop} {Q : Exit → Act → World → Prop} (s x : Operand)
  (ho : o.op = .call { callee := .builtin .append, args := #[s, x], argTypes := #[23, 23] }) (B : Nat) (v : Value) (n : Nat) (xs : List Value) (hs : a.eval s = v) (hown : w.ownsRow B 59 2 v n xs)
  (hx : a.eval x = .slice none 0 0) (h : K (a.put o.dst v) w) : o.wp Tryz.prog a w K Q := by
 obtain ⟨i0, hi, hz0, hz1, hz2⟩ := info_parts Tryz.infoItem
 have hrun := run_append_owned_none (P := Tryz.prog) (w := w) B 23 o.type 59 i0 2 Tryz.underlying23 hi v n xs hown
 unfold Oper.wp
 simp [execOp, ho, resolve, invoke, builtin, hs, hx, hrun, Result.andThen]
 exact h
theorem rows_apart {w : World} {B B' s s' n n' : Nat} {e e' : TypeId} {v v' : Value} {xs xs' : List Value} (h : w.ownsRow B e s v n xs) (k : w.ownsRow B' e' s' v' n' xs') (hne : e ≠ e') {g : Nat} (h1 : v.ownBlock = some g) (h2 : v'.ownBlock = some g) : False := by
 obtain ⟨_, ⟨f, _⟩ | ⟨b, cap', cur', f, _, f3, _⟩⟩ := k
 ·subst f; cases h2
 ·subst f
  obtain rfl : b = g := Option.some.inj h2
  exact row_no_blk h (show Blk w b e' cur' from f3) hne h1
theorem cellsI_ins : ∀ (a : Itms) (q : Nat) (t : ByteArray) (now : Int), q ≤ a.length → cellsI (a.take q ++ (t, now) :: a.drop q) = [] ++ (cellsI a).take (q * 2) ++ [.string t, .int .i64 now] ++ (cellsI a).drop (q * 2)
 | a, 0, t, now, _ => by simp [cellsI]
 | [], q + 1, _, _, h => absurd h (by simp)
 | p :: r, q + 1, t, now, h => by
  have ih := cellsI_ins r q t now (by simpa using h)
  have e1 : (q + 1) * 2 = q * 2 + 2 := by omega
  have e3 : cellsI (p :: r) = .string p.1 :: .int .i64 p.2 :: cellsI r := rfl
  have e4 : cellsI ((p :: r).take (q + 1) ++ (t, now) :: (p :: r).drop (q + 1)) = .string p.1 :: .int .i64 p.2 :: cellsI (r.take q ++ (t, now) :: r.drop q) := rfl
  rw [e4, e3, ih, e1]
  simp
set_option maxRecDepth 100000 in
set_option maxHeartbeats 2000000 in
theorem l4Away_none (wd room : Int) (ap : Option Addr) (cp : Nat) (vn : Value) (ts nd : List ByteArray) (w : World) (hn : Reads w vn nd) :
  Calls Tryz.prog 58 #[.agg #[.int .i64 wd, .int .i64 room, .slice none 0 0, .slice ap ts.length cp], vn] w (AwayR wd room (.slice none 0 0) (.slice ap ts.length cp) [] nd w) := by
 have hB0 := ((Below.refl w.heap.size w).alloc (Nat.le_refl _) (.cells #[.int .i64 wd, .int .i64 room, .slice none 0 0, .slice ap ts.length cp] 26)).alloc (by simp) (.cells #[.int .i64 0, .int .i64 0, .slice none 0 0, .slice none 0 0] 26)
 have N0 := (Blk.new w 26 #[.int .i64 wd, .int .i64 room, .slice none 0 0, .slice ap ts.length cp]).alloc (.cells #[.int .i64 0, .int .i64 0, .slice none 0 0, .slice none 0 0] 26)
 have N1 := Blk.new (w.alloc (.cells #[.int .i64 wd, .int .i64 room, .slice none 0 0, .slice ap ts.length cp] 26)) 26 #[.int .i64 0, .int .i64 0, .slice none 0 0, .slice none 0 0]
 rw [World.size_alloc] at N1
 obtain ⟨an, cn, rfl, _⟩ := hn.form
 obtain ⟨w2, hw2⟩ : ∃ x, x = (w.alloc (.cells #[.int .i64 wd, .int .i64 room, .slice none 0 0, .slice ap ts.length cp] 26)).alloc (.cells #[.int .i64 0, .int .i64 0, .slice none 0 0, .slice none 0 0] 26) := ⟨_, rfl⟩
 rw [← hw2] at hB0 N0 N1
 clear hn
 go_enter Tryz.func58, Tryz.ntmps58
 go_wp2
 rw [← hw2]
 clear hw2
 go_loopw [6, 7] (fun bv iv wr => bv = .int .i64 (-1) ∧ iv = .int .i64 0 ∧ wr = w2) (fun _ _ _ => 0)
 case atStart => exact ⟨rfl, rfl, rfl⟩
 case round =>
  obtain ⟨rfl, rfl, hwr⟩ := hrel
  subst hwr
  have x0 : wr.cell? ⟨w.heap.size, 0, none⟩ = some (.int .i64 wd) := N0.cell 0
  have x1 : wr.cell? ⟨w.heap.size, 1, none⟩ = some (.int .i64 room) := N0.cell 1
  have x2 : wr.cell? ⟨w.heap.size, 2, none⟩ = some (.slice none 0 0) := N0.cell 2
  have x3 : wr.cell? ⟨w.heap.size, 3, none⟩ = some (.slice ap ts.length cp) := N0.cell 3
  have s9 := N1.store4 (.int .i64 wd) (.int .i64 room) (.slice none 0 0) (.slice ap ts.length cp)
  have s0 := s9.a0; have s1 := s9.a1; have s2 := s9.a2; have s3 := s9.a3
  have k0 := s9.f0; have k1 := s9.f1; have k2 := s9.f2; have k3 := s9.f3
  have ZZ := hid s9.z
  have BB := hid ((((hB0.setCell (p := ⟨w.heap.size + 1, 0, none⟩) (by simp) (.int .i64 wd)).setCell (p := ⟨w.heap.size + 1, 1, none⟩) (by simp) (.int .i64 room)).setCell (p := ⟨w.heap.size + 1, 2, none⟩) (by simp) (.slice none 0 0)).setCell (p := ⟨w.heap.size + 1, 3, none⟩) (by simp) (.slice ap ts.length cp))
  clear s9 N0 N1 hB0
  go_wp2
  exact bodyPost_ret (v := .tuple #[.agg #[.int .i64 wd, .int .i64 room, .slice none 0 0, .slice ap ts.length cp], .bool false]) (by simp [results, Tryz.results58, go_sem, ZZ.out.cell]) rfl (.inl ⟨fun i hi => absurd hi (by simp), rfl, BB.out⟩)
theorem l4Away_any (wd room : Int) (ai : Option Addr) (ci : Nat) (ap : Option Addr) (cp : Nat) (vn : Value) (its : Itms) (ts nd : List ByteArray) (b1 : Nat) (w : World) (hi : w.ownsRow b1 59 2 (.slice ai its.length ci) its.length (cellsI its)) (hn : Reads w vn nd) (hnl : nd.length ≤ 1048576) (hA : AscI wd its) (hli : its.length ≤ 1000) (hsi : ∀ i, (itx its i).size ≤ 1048576) :
  Calls Tryz.prog 58 #[.agg #[.int .i64 wd, .int .i64 room, .slice ai its.length ci, .slice ap ts.length cp], vn] w (AwayR wd room (.slice ai its.length ci) (.slice ap ts.length cp) its nd w) := by
 rcases id hi with ⟨_, ⟨e, h0⟩ | ⟨g, cap, cur, e, _⟩⟩
 ·obtain rfl : its = [] := List.length_eq_zero_iff.1 h0
  obtain ⟨rfl, _, rfl⟩ : ai = none ∧ ([] : Itms).length = 0 ∧ ci = 0 := Value.slice.inj e
  exact l4Away_none wd room ap cp vn ts nd w hn
 ·obtain ⟨rfl, _, rfl⟩ : ai = some ⟨g, 0, none⟩ ∧ its.length = its.length ∧ ci = cap := Value.slice.inj e
  exact l4Away_some wd room g ci ap cp vn its ts nd b1 w hi hn hnl hA hli hsi
theorem row_fzI {w : World} {B g n cap : Nat} {its : Itms} (h : w.ownsRow B 59 2 (.slice (some ⟨g, 0, none⟩) n cap) its.length (cellsI its)) (i : Nat) : w.frozen? ⟨g, i, none⟩ = false := by
 obtain ⟨_, ⟨e, _⟩ | ⟨g', cap', cur, e1, e2, e3, _⟩⟩ := h
 ·cases e
 ·cases e1
  exact Blk.fz (T := 59) (cs := cur) e3 i
theorem row_setI {w : World} {B g n cap : Nat} {its : Itms} (h : w.ownsRow B 59 2 (.slice (some ⟨g, 0, none⟩) n cap) its.length (cellsI its)) (i : Nat) (hi : i < its.length) (now : Int) : (w.setCell ⟨g, i * 2 + 1, none⟩ (.int .i64 now)).ownsRow B 59 2 (.slice (some ⟨g, 0, none⟩) n cap) (its.set i (itx its i, now)).length (cellsI (its.set i (itx its i, now))) := by
 obtain ⟨h1, ⟨e, _⟩ | ⟨g', cap', cur, e1, e2, e3, e4, e5, e6, e7⟩⟩ := h
 ·cases e
 ·cases e1
  have b1 := Blk.set (show Blk w g 59 cur from e3) (i * 2 + 1) (.int .i64 now)
  refine ⟨by rw [cellsI_len], .inr ⟨g, cap, _, by rw [List.length_set], e2, b1, by rw [List.length_set]; exact e4, e5, by simp [e6], ?_⟩⟩
  rw [List.length_set, Array.toList_setIfInBounds, List.take_set, e7, cellsI_set its i now hi]
theorem rdi_of_row {w : World} {B : Nat} {v : Value} {its : Itms} (h : w.ownsRow B 59 2 v its.length (cellsI its)) : RdI w v its := StoreOwn.rdi (w := w) (B := B) (vp := .slice none 0 0) (ts := []) ⟨h, World.ownsRow_nil _ _ _ _, fun g _ e => by simp [Value.ownBlock] at e⟩
set_option maxRecDepth 100000 in
set_option maxHeartbeats 16000000 in
theorem specPut_any (wd room : Int) (vi vp : Value) (its : Itms) (ts : List ByteArray) (t : ByteArray) (now : Int) (w : World) (b1 b2 : Nat) (hi : w.ownsRow b1 59 2 vi its.length (cellsI its)) (hp : w.ownsRow b2 9 1 vp ts.length (ts.map Value.string)) (hli : its.length ≤ 1048576) (hlp : ts.length ≤ 1048576) (hsi : ∀ i, (itx its i).size ≤ 1048576) (hsp : ∀ i, (tv ts i).size ≤ 1048576) (hts : t.size ≤ 1048576) :
  Calls Tryz.prog 28 #[.agg #[.int .i64 wd, .int .i64 room, vi, vp], .string t, .int .i64 now] w fun e w' => ∃ wd' room' its' ts' code vi' vp', e = .returned (.tuple #[.agg #[.int .i64 wd', .int .i64 room', vi', vp'], .int .i64 code]) ∧ PutR wd room its ts t now wd' room' its' ts' code ∧ StoreOwn w' (w.heap.size + 2) vi' vp' its' ts' ∧ Below w.heap.size w w' := by
 obtain ⟨ai, ci, hvi⟩ : ∃ ai ci, vi = .slice ai its.length ci := row_any hi
 subst hvi
 obtain ⟨ap, cp, rfl, _⟩ := row_form hp
 have hA := ((Below.refl w.heap.size w).alloc (Nat.le_refl _) (.cells #[.int .i64 wd, .int .i64 room, .slice ai its.length ci, .slice ap ts.length cp] 26)).alloc (by simp) (.cells #[.int .i64 0, .int .i64 0, .slice none 0 0, .slice none 0 0] 26)
 have HN := hid ((Blk.new w 26 #[.int .i64 wd, .int .i64 room, .slice ai its.length ci, .slice ap ts.length cp]).alloc (.cells #[.int .i64 0, .int .i64 0, .slice none 0 0, .slice none 0 0] 26))
 have hN7 := Blk.new (w.alloc (.cells #[.int .i64 wd, .int .i64 room, .slice ai its.length ci, .slice ap ts.length cp] 26)) 26 #[.int .i64 0, .int .i64 0, .slice none 0 0, .slice none 0 0]
 rw [World.size_alloc] at hN7
 have HN7 := hid hN7
 have HV := hid (specValidStore_any wd room _ _ its ts _ (rdi_of_row (rowI_below hi hA)) (Reads.of_row (Below.row hA hp)) hli hlp hsi hsp)
 have HI := hid hi
 have HP := hid hp
 have HA := hid hA
 have HSI := hid hsi
 have HSP := hid hsp
 have HCP := hid fun W a b => l4Copy_row wd room (.slice ai its.length ci) (.slice ap ts.length cp) its ts W b1 b2 a b hli hlp
 have hL1 := fun W => l1In_any (t.size : Int) 1 7000 W
 have hL2 := fun W => l1In_any now 0 1000000 W
 clear hi hp hA hN7 hsi hsp
 go_enter Tryz.func28, Tryz.ntmps28
 go_wp2_with fail
 refine HV.out.mono ?_
 rintro e w1 ⟨b, rfl, hb, hb1⟩
 have N1 := HN.out.below hb1
 have N7 := HN7.out.below hb1
 have B1 := HA.out.trans (hb1.mono (by simp; omega))
 clear hb1
 cases b with
 | false =>
  have HF : Hid (PutR wd room its ts t now 0 0 [] [] 1) := .inl ⟨(fun h => by have := hb.2 h.1; cases this), rfl, rfl, rfl, rfl, rfl⟩
  have s9 := N7.store4 (.int .i64 0) (.int .i64 0) (.slice none 0 0) (.slice none 0 0)
  have s0 := s9.a0; have s1 := s9.a1; have s2 := s9.a2; have s3 := s9.a3
  have k0 := s9.f0; have k1 := s9.f1; have k2 := s9.f2; have k3 := s9.f3
  have ZZ := hid s9.z
  have BB := hid ((((B1.setCell (p := ⟨w.heap.size + 1, 0, none⟩) (by simp) (.int .i64 0)).setCell (p := ⟨w.heap.size + 1, 1, none⟩) (by simp) (.int .i64 0)).setCell (p := ⟨w.heap.size + 1, 2, none⟩) (by simp) (.slice none 0 0)).setCell (p := ⟨w.heap.size + 1, 3, none⟩) (by simp) (.slice none 0 0))
  clear s9
  clear N1 N7 B1 hb hL1 hL2
  go_wp2
  refine bodyPost_ret (v := .tuple #[.agg #[.int .i64 0, .int .i64 0, .slice none 0 0, .slice none 0 0], .int .i64 1]) (by simp [results, Tryz.results28, go_sem, ZZ.out.cell]) rfl ⟨0, 0, [], [], 1, _, _, rfl, HF.out, StoreOwn.none _ _, BB.out⟩
 | true =>
 have HVAL := hid (hb.1 rfl)
 clear hb
 by_cases hbl : (1 : Int) ≤ (t.size : Int) ∧ (t.size : Int) ≤ 7000
 case neg =>
  have HF : Hid (PutR wd room its ts t now 0 0 [] [] 1) := .inl ⟨fun h => hbl (by have := h.2.1; omega), rfl, rfl, rfl, rfl, rfl⟩
  rw [decide_eq_false hbl] at hL1
  have s9 := N7.store4 (.int .i64 0) (.int .i64 0) (.slice none 0 0) (.slice none 0 0)
  have s0 := s9.a0; have s1 := s9.a1; have s2 := s9.a2; have s3 := s9.a3
  have k0 := s9.f0; have k1 := s9.f1; have k2 := s9.f2; have k3 := s9.f3
  have ZZ := hid s9.z
  have BB := hid ((((B1.setCell (p := ⟨w.heap.size + 1, 0, none⟩) (by simp) (.int .i64 0)).setCell (p := ⟨w.heap.size + 1, 1, none⟩) (by simp) (.int .i64 0)).setCell (p := ⟨w.heap.size + 1, 2, none⟩) (by simp) (.slice none 0 0)).setCell (p := ⟨w.heap.size + 1, 3, none⟩) (by simp) (.slice none 0 0))
  clear s9
  clear N1 N7 B1 hL2
  go_wp2_with fail
  refine (hL1 _).mono ?_
  rintro e w' ⟨rfl, hw'⟩
  have hw'' := hw'.symm
  subst hw''
  clear hw'
  go_wp2
  refine bodyPost_ret (v := .tuple #[.agg #[.int .i64 0, .int .i64 0, .slice none 0 0, .slice none 0 0], .int .i64 1]) (by simp [results, Tryz.results28, go_sem, ZZ.out.cell]) rfl ⟨0, 0, [], [], 1, _, _, rfl, HF.out, StoreOwn.none _ _, BB.out⟩
 by_cases htm : 0 ≤ now ∧ now ≤ 1000000
 case neg =>
  have HF : Hid (PutR wd room its ts t now 0 0 [] [] 1) := .inl ⟨fun h => htm h.2.2, rfl, rfl, rfl, rfl, rfl⟩
  rw [decide_eq_true hbl] at hL1
  rw [decide_eq_false htm] at hL2
  have s9 := N7.store4 (.int .i64 0) (.int .i64 0) (.slice none 0 0) (.slice none 0 0)
  have s0 := s9.a0; have s1 := s9.a1; have s2 := s9.a2; have s3 := s9.a3
  have k0 := s9.f0; have k1 := s9.f1; have k2 := s9.f2; have k3 := s9.f3
  have ZZ := hid s9.z
  have BB := hid ((((B1.setCell (p := ⟨w.heap.size + 1, 0, none⟩) (by simp) (.int .i64 0)).setCell (p := ⟨w.heap.size + 1, 1, none⟩) (by simp) (.int .i64 0)).setCell (p := ⟨w.heap.size + 1, 2, none⟩) (by simp) (.slice none 0 0)).setCell (p := ⟨w.heap.size + 1, 3, none⟩) (by simp) (.slice none 0 0))
  clear s9
  clear N1 N7 B1 htm
  go_wp2_with fail
  refine (hL1 _).mono ?_
  rintro e w' ⟨rfl, hw'⟩
  have hw'' := hw'.symm
  subst hw''
  clear hw'
  go_wp2_with fail
  refine (hL2 _).mono ?_
  rintro e w' ⟨rfl, hw'⟩
  have hw'' := hw'.symm
  subst hw''
  clear hw'
  go_wp2
  refine bodyPost_ret (v := .tuple #[.agg #[.int .i64 0, .int .i64 0, .slice none 0 0, .slice none 0 0], .int .i64 1]) (by simp [results, Tryz.results28, go_sem, ZZ.out.cell]) rfl ⟨0, 0, [], [], 1, _, _, rfl, HF.out, StoreOwn.none _ _, BB.out⟩
 rw [decide_eq_true hbl] at hL1
 rw [decide_eq_true htm] at hL2
 have HPU : Hid (Puts t now) := hid ⟨by omega, htm⟩
 have x0 : w1.cell? ⟨w.heap.size, 0, none⟩ = some (.int .i64 wd) := N1.cell 0
 have x1 : w1.cell? ⟨w.heap.size, 1, none⟩ = some (.int .i64 room) := N1.cell 1
 have x2 : w1.cell? ⟨w.heap.size, 2, none⟩ = some (.slice ai its.length ci) := N1.cell 2
 have x3 : w1.cell? ⟨w.heap.size, 3, none⟩ = some (.slice ap ts.length cp) := N1.cell 3
 have HCP1 := hid (HCP.out w1 (rowI_below HI.out B1) (Below.row B1 HP.out))
 have HN1 := hid N1
 have HN71 := hid N7
 have HB1 := hid B1
 have hs1 := B1.size
 have hs17 := N7.lt
 clear N1 N7 B1 htm
 go_wp2_with fail
 refine (hL1 _).mono ?_
 rintro e w' ⟨rfl, hw'⟩
 have hw'' := hw'.symm
 subst hw''
 clear hw'
 go_wp2_with fail
 refine (hL2 _).mono ?_
 rintro e w' ⟨rfl, hw'⟩
 have hw'' := hw'.symm
 subst hw''
 clear hw'
 go_wp2_with fail
 refine HCP1.out.mono ?_
 rintro e w3 ⟨v3, p3, rfl, ho3, hp3, hap, hb3⟩
 obtain ⟨a4, c4, rfl⟩ := row_any ho3
 obtain ⟨b4, d4, rfl⟩ := row_any hp3
 have B3 := HB1.out.trans (hb3.mono hs1)
 have hs3 := hb3.size
 have B4 := B3.alloc B3.size (.cells #[.int .i64 wd, .int .i64 room, .slice a4 its.length c4, .slice b4 ts.length d4] 26)
 have O4 := Blk.new w3 26 #[.int .i64 wd, .int .i64 room, .slice a4 its.length c4, .slice b4 ts.length d4]
 have S4 := (HN1.out.below hb3).alloc (.cells #[.int .i64 wd, .int .i64 room, .slice a4 its.length c4, .slice b4 ts.length d4] 26)
 have Z4 := (HN71.out.below hb3).alloc (.cells #[.int .i64 wd, .int .i64 room, .slice a4 its.length c4, .slice b4 ts.length d4] 26)
 have I4 := ho3.alloc (.cells #[.int .i64 wd, .int .i64 room, .slice a4 its.length c4, .slice b4 ts.length d4] 26)
 have P4 := hp3.alloc (.cells #[.int .i64 wd, .int .i64 room, .slice a4 its.length c4, .slice b4 ts.length d4] 26)
 have z0 : (w3.alloc (.cells #[.int .i64 wd, .int .i64 room, .slice a4 its.length c4, .slice b4 ts.length d4] 26)).cell? ⟨w.heap.size, 0, none⟩ = some (.int .i64 wd) := S4.cell 0
 obtain ⟨w4, hw4⟩ : ∃ x, x = w3.alloc (.cells #[.int .i64 wd, .int .i64 room, .slice a4 its.length c4, .slice b4 ts.length d4] 26) := ⟨_, rfl⟩
 have hs4 : w4.heap.size = w3.heap.size + 1 := by rw [hw4, World.size_alloc]
 rw [← hw4] at B4 O4 S4 Z4 I4 P4
 have HB4 := hid B4
 have HO4 := hid O4
 have HS4 := hid S4
 have HZ4 := hid Z4
 have HI4 := hid I4
 have HP4 := hid P4
 have HLI := hid ho3.lt
 have HLP := hid hp3.lt
 have HAP := hid hap
 have HSU : Hid (Calls Tryz.prog 30 #[.string t, .int .i64 wd] w4 fun e w' => e = .returned (.string (sumX wd t)) ∧ Below w4.heap.size w4 w') := hid (specSum_any t wd w4 (by unfold maxLen; omega))
 have HAT := hid fun (W : World) (h : RdI W (.slice a4 its.length c4) its) => l4At_any wd room (.slice a4 its.length c4) (.slice b4 ts.length d4) its (sumX wd t) W h ⟨_, _, _, rfl⟩ hli HSI.out
 have hob : w.heap.size + 2 ≤ w3.heap.size := by omega
 clear ho3 hp3 hap hb3 B3 B4 O4 S4 Z4 I4 P4 x0 x1 x2 x3 hs4
 go_wp2_with fail
 rw [← hw4]
 clear hw4
 refine HSU.out.mono ?_
 rintro e w5 ⟨rfl, hb5⟩
 have B5 := HB4.out.trans (hb5.mono HB4.out.size)
 have O5 := HO4.out.below hb5
 have HI5 := hid (HI4.out.kept (grown_of_below hb5) (by cases hv : (Value.slice a4 its.length c4).ownBlock <;> simp))
 have HP5 := hid (Below.row hb5 HP4.out)
 have HS5 := hid (HS4.out.below hb5)
 have HZ5 := hid (HZ4.out.below hb5)
 have HO5 := hid O5
 have HB5 := hid B5
 have y0 : w5.cell? ⟨w3.heap.size, 0, none⟩ = some (.int .i64 wd) := O5.cell 0
 have y1 : w5.cell? ⟨w3.heap.size, 1, none⟩ = some (.int .i64 room) := O5.cell 1
 have y2 : w5.cell? ⟨w3.heap.size, 2, none⟩ = some (.slice a4 its.length c4) := O5.cell 2
 have y3 : w5.cell? ⟨w3.heap.size, 3, none⟩ = some (.slice b4 ts.length d4) := O5.cell 3
 have HAT5 := hid (HAT.out w5 (rdi_of_row HI5.out))
 have hs5 := hb5.size
 clear hb5 B5 O5 z0
 go_wp2_with fail
 refine HAT5.out.mono ?_
 rintro e w6 ⟨r, rfl, hr, hb6⟩
 have B6 := HB5.out.trans (hb6.mono HB5.out.size)
 have O6 := HO5.out.below hb6
 have I6 := HI5.out.kept (grown_of_below hb6) (by cases hv : (Value.slice a4 its.length c4).ownBlock <;> simp)
 have P6 := Below.row hb6 HP5.out
 have S6 := HS5.out.below hb6
 have Z6 := HZ5.out.below hb6
 have hs6 := hb6.size
 have HAS := hid (ascI_of HVAL.out.each)
 clear hb6 y0 y1 y2 y3
 rcases hr with ⟨rfl, hno⟩ | ⟨i, hil, rfl, hsum⟩
 case inr =>
  obtain ⟨g4, cap4, e4, hg4, hgl4⟩ := World.ownsRow.form I6 (by omega)
  obtain ⟨rfl, _, rfl⟩ : a4 = some ⟨g4, 0, none⟩ ∧ its.length = its.length ∧ c4 = cap4 := Value.slice.inj e4
  obtain ⟨ck0, ck1⟩ := row_cellI I6 i hil
  obtain ⟨t0, ht0⟩ : ∃ x, itx its i = x := ⟨_, rfl⟩
  rw [ht0] at ck0
  have y0 : w6.cell? ⟨w3.heap.size, 0, none⟩ = some (.int .i64 wd) := O6.cell 0
  have y1 : w6.cell? ⟨w3.heap.size, 1, none⟩ = some (.int .i64 room) := O6.cell 1
  have y2 : w6.cell? ⟨w3.heap.size, 2, none⟩ = some (.slice (some ⟨g4, 0, none⟩) its.length c4) := O6.cell 2
  have y3 : w6.cell? ⟨w3.heap.size, 3, none⟩ = some (.slice b4 ts.length d4) := O6.cell 3
  have hni : ¬ ((i : Int) < 0) := by omega
  by_cases he : t0.toList = t.toList
  ·have he' : (t0.toList == t.toList) = true := by simpa using he
   have htt : t0 = t := text_eq he
   have HF : Hid (PutR wd room its ts t now wd room (its.set i (t, now)) ts 0) := hid (.inr ⟨⟨HVAL.out, HPU.out⟩, 0, _, .there i hil hsum (by rw [ht0, htt]), rfl, .inr ⟨rfl, rfl, rfl, rfl, rfl⟩⟩)
   have f1 : w6.frozen? ⟨g4, i * 2 + 1, none⟩ = false := row_fzI I6 _
   have G7 := grownBy_setCellAt w6 g4 (i * 2 + 1) (.int .i64 now)
   have I7 := row_setI I6 i hil now
   rw [ht0, htt] at I7
   have hpg : ∀ g, (Value.slice b4 ts.length d4).ownBlock = some g → g ≠ g4 := fun g e h => HAP.out g4 rfl (by rw [e, h])
   have P7 := P6.kept G7 (.inr fun e => hpg _ e rfl)
   have hgo : w3.heap.size ≠ g4 := fun e => by have := (HLI.out g4 rfl).2; omega
   have hgz : w.heap.size + 1 ≠ g4 := fun e => by have := (HLI.out g4 rfl).1; omega
   have O7 := O6.kept G7 (fun e => hgo (Option.some.inj e))
   have Z7 := Z6.kept G7 (fun e => hgz (Option.some.inj e))
   have B7 := B6.setCell (p := ⟨g4, i * 2 + 1, none⟩) (show w.heap.size ≤ g4 by have := (HLI.out g4 rfl).1; omega) (.int .i64 now)
   obtain ⟨w7, hw7⟩ : ∃ x, x = w6.setCell ⟨g4, i * 2 + 1, none⟩ (.int .i64 now) := ⟨_, rfl⟩
   rw [← hw7] at I7 P7 O7 Z7 B7
   have s9 := Z7.store4 (.int .i64 wd) (.int .i64 room) (.slice (some ⟨g4, 0, none⟩) its.length c4) (.slice b4 ts.length d4)
   have s0 := s9.a0; have s1 := s9.a1; have s2 := s9.a2; have s3 := s9.a3
   have k0 := s9.f0; have k1 := s9.f1; have k2 := s9.f2; have k3 := s9.f3
   have ZZ := hid s9.z
   have BB := hid ((((B7.setCell (p := ⟨w.heap.size + 1, 0, none⟩) (by simp) (.int .i64 wd)).setCell (p := ⟨w.heap.size + 1, 1, none⟩) (by simp) (.int .i64 room)).setCell (p := ⟨w.heap.size + 1, 2, none⟩) (by simp) (.slice (some ⟨g4, 0, none⟩) its.length c4)).setCell (p := ⟨w.heap.size + 1, 3, none⟩) (by simp) (.slice b4 ts.length d4))
   have GG := fun (x : World) (j : Nat) (y : Value) => grownBy_setCellAt x (w.heap.size + 1) j y
   have SO : StoreOwn w7 (w1.heap.size + 1) (.slice (some ⟨g4, 0, none⟩) its.length c4) (.slice b4 ts.length d4) (its.set i (t, now)) ts := ⟨I7, P7, HAP.out⟩
   have SO4 := hid ((((SO.kept (GG _ 0 (.int .i64 wd)) (by omega)).kept (GG _ 1 (.int .i64 room)) (by omega)).kept (GG _ 2 (.slice (some ⟨g4, 0, none⟩) its.length c4)) (by omega)).kept (GG _ 3 (.slice b4 ts.length d4)) (by omega))
   have q0 : w7.cell? ⟨w3.heap.size, 0, none⟩ = some (.int .i64 wd) := O7.cell 0
   have q1 : w7.cell? ⟨w3.heap.size, 1, none⟩ = some (.int .i64 room) := O7.cell 1
   have q2 : w7.cell? ⟨w3.heap.size, 2, none⟩ = some (.slice (some ⟨g4, 0, none⟩) its.length c4) := O7.cell 2
   have q3 : w7.cell? ⟨w3.heap.size, 3, none⟩ = some (.slice b4 ts.length d4) := O7.cell 3
   rw [hw7] at s0 s1 s2 s3 k0 k1 k2 k3 q0 q1 q2 q3
   clear s9 GG SO I7 P7 O7 Z7 B7 G7 O6 I6 P6 S6 Z6 B6 hpg hgo hgz he htt hsum ht0 e4
   go_wp2
   rw [← hw7]
   exact bodyPost_ret (v := .tuple #[.agg #[.int .i64 wd, .int .i64 room, .slice (some ⟨g4, 0, none⟩) its.length c4, .slice b4 ts.length d4], .int .i64 0]) (by simp [results, Tryz.results28, go_sem, ZZ.out.cell]) rfl ⟨wd, room, _, ts, 0, _, _, rfl, HF.out, SO4.out.base (by omega), BB.out⟩
  ·have he' : (t0.toList == t.toList) = false := by simpa using he
   have HF : Hid (PutR wd room its ts t now 0 0 [] [] 2) := hid (.inr ⟨⟨HVAL.out, HPU.out⟩, 2, its, .other i hil hsum (by rw [ht0]; exact fun e => he (by rw [e])), rfl, .inl ⟨by decide, rfl, rfl, rfl, rfl⟩⟩)
   have s9 := Z6.store4 (.int .i64 0) (.int .i64 0) (.slice none 0 0) (.slice none 0 0)
   have s0 := s9.a0; have s1 := s9.a1; have s2 := s9.a2; have s3 := s9.a3
   have k0 := s9.f0; have k1 := s9.f1; have k2 := s9.f2; have k3 := s9.f3
   have ZZ := hid s9.z
   have BB := hid ((((B6.setCell (p := ⟨w.heap.size + 1, 0, none⟩) (by simp) (.int .i64 0)).setCell (p := ⟨w.heap.size + 1, 1, none⟩) (by simp) (.int .i64 0)).setCell (p := ⟨w.heap.size + 1, 2, none⟩) (by simp) (.slice none 0 0)).setCell (p := ⟨w.heap.size + 1, 3, none⟩) (by simp) (.slice none 0 0))
   clear s9
   clear O6 I6 P6 S6 Z6 B6 he hsum ht0 e4 ck1
   go_wp2
   refine bodyPost_ret (v := .tuple #[.agg #[.int .i64 0, .int .i64 0, .slice none 0 0, .slice none 0 0], .int .i64 2]) (by simp [results, Tryz.results28, go_sem, ZZ.out.cell]) rfl ⟨0, 0, [], [], 2, _, _, rfl, HF.out, StoreOwn.none _ _, BB.out⟩
 have HND := hid (l4Needed_any wd room (.slice ai its.length ci) (.slice ap ts.length cp) its ts w6 (rdi_of_row (rowI_below HI.out B6)) (Reads.of_row (Below.row B6 HP.out)) HAS.out.lt HVAL.out.pins hli HSI.out)
 have x0 : w6.cell? ⟨w.heap.size, 0, none⟩ = some (.int .i64 wd) := S6.cell 0
 have x1 : w6.cell? ⟨w.heap.size, 1, none⟩ = some (.int .i64 room) := S6.cell 1
 have x2 : w6.cell? ⟨w.heap.size, 2, none⟩ = some (.slice ai its.length ci) := S6.cell 2
 have x3 : w6.cell? ⟨w.heap.size, 3, none⟩ = some (.slice ap ts.length cp) := S6.cell 3
 have HNO := hid hno
 have HO6 := hid O6
 have HI6 := hid I6
 have HP6 := hid P6
 have HS6 := hid S6
 have HZ6 := hid Z6
 have HB6 := hid B6
 clear hno O6 I6 P6 S6 Z6 B6
 go_wp2_with fail
 refine HND.out.mono ?_
 rintro e w7 ⟨vn, nd, bn, rfl, hneed, hndl, hrow7, hb7⟩
 obtain ⟨an, cn, rfl, _⟩ := row_form hrow7
 have HNEED := hid hneed
 have HO7 := hid (HO6.out.below hb7)
 have HI7 := hid (HI6.out.kept (grown_of_below hb7) (by cases hv : (Value.slice a4 its.length c4).ownBlock <;> simp))
 have HP7 := hid (Below.row hb7 HP6.out)
 have HS7 := hid (HS6.out.below hb7)
 have HZ7 := hid (HZ6.out.below hb7)
 have HR7 := hid hrow7
 have HB7 := hid (HB6.out.trans (hb7.mono HB6.out.size))
 have hs7 := hb7.size
 have hroom := HVAL.out.room1
 have hitems := HVAL.out.items
 have HE7 : Hid (∀ i, i < its.length → (itx its i).size ≤ 7000) := hid fun i hi => (HVAL.out.each i hi).1.2
 have htot : (totI its : Int) ≤ room := HVAL.out.fits
 have hnds : nd.length ≤ 1048576 := by omega
 clear hneed hrow7 hb7 x0 x1 x2 x3
 go_wp2
 go_loopw [] (fun wr => ∃ (k : Nat) (a : Itms) (v : Value), AwayN wd (NeedTo wd its ts ts.length) its k a ∧ (∀ j z, j < k → AwayN wd (NeedTo wd its ts ts.length) its j z → ¬ fitsI room z t.size) ∧ Blk wr w3.heap.size 26 #[.int .i64 wd, .int .i64 room, v, .slice b4 ts.length d4] ∧ wr.ownsRow (w1.heap.size + 1) 59 2 v a.length (cellsI a) ∧ But (fun b => b = w3.heap.size) w7 wr) (fun wr => match wr.cell? ⟨w3.heap.size, 2, none⟩ with | some (.slice _ n _) => n | _ => 0)
 case atStart => exact ⟨0, its, _, .zero, fun j _ h => absurd h (by omega), HO7.out, HI7.out, But.refl _ _⟩
 case round =>
  obtain ⟨k, a, v, haw, hbef, hox, hoi, hbt⟩ := hrel
  obtain ⟨av, cv, rfl⟩ := row_any hoi
  have HAW := hid haw
  have HBEF := hid hbef
  have HOX := hid hox
  have HOI := hid hoi
  have HBT := hid hbt
  have hal := haw.len
  have hta := totI_sub haw.sub
  have HAA : Hid (AscI wd a) := hid (HAS.out.sub haw.sub)
  have HSIA : Hid (∀ i, i < a.length → (itx a i).size ≤ 7000) := hid fun i hi => by
   have hm : a[i] ∈ its := haw.sub.subset (List.getElem_mem hi)
   obtain ⟨j, hj, hje⟩ := List.getElem_of_mem hm
   have := HE7.out j hj
   rw [itx_get its j hj, hje, ← itx_get a i hi] at this
   exact this
  have S := hbt.blk HS7.out (fun e => by have e' : w.heap.size = w3.heap.size := e; omega)
  have HS := hid S
  have hbd : Below wr.heap.size wr wr.drew := below_drewN (Below.refl _ _) 1
  have HBY := hid (l4Bytes_any wd room (.slice av a.length cv) (.slice b4 ts.length d4) a wr.drew ((rdi_of_row hoi).below hbd) ⟨_, _, _, rfl⟩ (by omega) HSIA.out)
  have HFX := hid fun (W : World) (h : Below wr.heap.size wr W) => (show W.cell? ⟨w3.heap.size, 0, none⟩ = some (.int .i64 wd) ∧ W.cell? ⟨w3.heap.size, 1, none⟩ = some (.int .i64 room) ∧ W.cell? ⟨w3.heap.size, 2, none⟩ = some (.slice av a.length cv) ∧ W.cell? ⟨w3.heap.size, 3, none⟩ = some (.slice b4 ts.length d4) ∧ W.cell? ⟨w.heap.size, 1, none⟩ = some (.int .i64 room) from by
   have X := HOX.out.below h
   have Y := HS.out.below h
   exact ⟨X.cell 0, X.cell 1, X.cell 2, X.cell 3, Y.cell 1⟩)
  have hS0 := HFX.out wr.drew hbd
  have hec := enters_of Tryz.func49 (by kernel_rfl) rfl
  clear haw hbef hox hoi hbt S
  by_cases hfit : fitsI room a t.size
  ·have h1 : ((totI a : Nat) : Int) + (t.size : Int) ≤ room := hfit.1
   have h2 : ((a.length : Nat) : Int) < 1000 := by have := hfit.2; omega
   have HFIT := hid hfit
   clear hfit
   go_wp2_with fail
   refine wp_region_held (S := fun w' => w'.cell? ⟨w3.heap.size, 0, none⟩ = some (.int .i64 wd) ∧ w'.cell? ⟨w3.heap.size, 1, none⟩ = some (.int .i64 room) ∧ w'.cell? ⟨w3.heap.size, 2, none⟩ = some (.slice av a.length cv) ∧ w'.cell? ⟨w3.heap.size, 3, none⟩ = some (.slice b4 ts.length d4) ∧ w'.cell? ⟨w.heap.size, 1, none⟩ = some (.int .i64 room)) (by kernel_rfl) ?_
   change wpAnyH _ _ _ _ _ _ _ _ (World.drew _)
   refine tkA 0 (.agg #[.int .i64 wd, .int .i64 room, .slice av a.length cv, .slice b4 ts.length d4]) rfl hS0 ?_
   refine tkA 2 (.string t) rfl hS0 ?_
   refine tkA 3 (.int .i64 (t.size : Nat)) rfl hS0 ?_
   refine tkA 5 (.pointer (some ⟨w.heap.size, 1, none⟩)) rfl hS0 ?_
   refine tkA 6 (.int .i64 room) rfl hS0 ?_
   refine held_one 1 (by kernel_rfl) (op_calls (f := 49) (args := #[.agg #[.int .i64 wd, .int .i64 room, .slice av a.length cv, .slice b4 ts.length d4]]) rfl rfl (by go_simp) HBY.out ?_)
   rintro e w8 ⟨rfl, hb8⟩
   have hb8' : Below wr.heap.size wr w8 := ⟨hb8.os, hb8.tape, hb8.output, hb8.size, hb8.block⟩
   have hS1 := HFX.out w8 hb8'
   refine ⟨_, rfl, hS1, ?_⟩
   refine wpAnyH_take (i := 4) (v := .int .i64 (((totI a : Nat) : Int) + ((t.size : Nat) : Int))) rfl (by kernel_rfl) (by kernel_rfl) (by kernel_rfl) (fun _ _ _ h => h) (.inl ⟨rfl, fun w' hS => by obtain ⟨s1, s2, s3, s4, s5⟩ := hS; first | (go_simp; done) | (go_simp; rw [IntKind.wrap_i64]; omega)⟩) hS1 ?_
   refine tkA 7 (.bool false) rfl hS1 ?_
   refine tkA 8 (.bool false) rfl hS1 ?_
   refine tkG 9 (.pointer (some ⟨w3.heap.size, 2, none⟩)) rfl hS1 ?_
   refine tkG 10 (.slice av a.length cv) rfl hS1 ?_
   refine tkG 11 (.int .i64 (a.length : Nat)) rfl hS1 ?_
   refine tkG 12 (.bool false) rfl hS1 ?_
   refine tkA 13 (.bool false) rfl hS1 ?_
   refine wpAnyH_done (by kernel_rfl) ?_ _
   have HB8 := hid hb8'
   clear hS0 hS1 hb8 hb8'
   go_simp
   go_wp2
   have HO8 := hid (HOX.out.below HB8.out)
   have HI8 := hid (HOI.out.kept (grown_of_below HB8.out) (by cases hv : (Value.slice av a.length cv).ownBlock <;> simp))
   have HS8 := hid (HS.out.below HB8.out)
   have HT8 : Hid (But (fun b => b = w3.heap.size) w7 w8) := hid (HBT.out.trans (But.of_below HB8.out) (fun _ _ h => h))
   have hsb8 := HO8.out.lt
   clear h1 h2 HB8
   go_loopw [14] (fun iv wz => ∃ q : Nat, iv = .int .i64 q ∧ q ≤ a.length ∧ (∀ j, j < q → tlt (sumX wd (itx a j)) (sumX wd t) = true) ∧ Below w8.heap.size w8 wz) (fun iv _ => a.length - (intOf iv).toNat)
   case atStart => exact ⟨0, rfl, Nat.zero_le _, fun j hj => absurd hj (by omega), Below.refl _ _⟩
   case round =>
    obtain ⟨q, rfl, hq, hless, hbz⟩ := hrel
    have HLESS := hid hless
    have HBZ := hid hbz
    have HOZ := hid (HO8.out.below hbz)
    have HIZ := hid (HI8.out.kept (grown_of_below hbz) (by cases hv : (Value.slice av a.length cv).ownBlock <;> simp))
    have HSZ := hid (HS8.out.below hbz)
    have hbdz : Below wr.heap.size wr wr.drew := below_drewN (Below.refl _ _) 1
    have hsz := hbz.size
    clear hless hbz
    by_cases hlt : q < a.length
    ·obtain ⟨gA, capA, eA, hgA, hgAl⟩ := World.ownsRow.form HIZ.out (by omega)
     obtain ⟨rfl, _, rfl⟩ : av = some ⟨gA, 0, none⟩ ∧ a.length = a.length ∧ cv = capA := Value.slice.inj eA
     obtain ⟨tq, htq⟩ : ∃ x, itx a q = x := ⟨_, rfl⟩
     have HTQ := hid htq
     have htz := HSIA.out q hlt
     rw [htq] at htz
     have HFY := hid fun (W : World) (h : Below wr.heap.size wr W) => (show W.cell? ⟨w3.heap.size, 2, none⟩ = some (.slice (some ⟨gA, 0, none⟩) a.length cv) ∧ W.cell? ⟨w.heap.size, 0, none⟩ = some (.int .i64 wd) ∧ W.cell? ⟨gA, q * 2, none⟩ = some (.string tq) from by
      have X := HOZ.out.below h
      have Y := HSZ.out.below h
      obtain ⟨c0, _⟩ := row_cellI (HIZ.out.kept (grown_of_below h) (.inr (fun e => by cases e))) q hlt
      rw [HTQ.out] at c0
      exact ⟨X.cell 2, Y.cell 0, c0⟩)
     have HSU : Hid (Calls Tryz.prog 30 #[.string tq, .int .i64 wd] wr.drew fun e w' => e = .returned (.string (sumX wd tq)) ∧ Below wr.drew.heap.size wr.drew w') := hid (specSum_any tq wd wr.drew (by unfold maxLen; omega))
     have hS0 := HFY.out wr.drew hbdz
     have hec2 := enters_of Tryz.func30 (by kernel_rfl) rfl
     have hqi : ((q : Nat) : Int) < ((a.length : Nat) : Int) := by omega
     clear htq eA
     cases hcmp : Op.bytesLess (sumX wd tq).toList (sumX wd t).toList with
     | true =>
      have HNX : Hid (∀ j, j < q + 1 → tlt (sumX wd (itx a j)) (sumX wd t) = true) := hid fun j hj => (Nat.lt_or_eq_of_le (Nat.le_of_lt_succ hj)).elim (HLESS.out j) (fun e => by rw [e, HTQ.out]; exact hcmp)
      go_wp2_with fail
      refine wp_region_held (S := fun w' => w'.cell? ⟨w3.heap.size, 2, none⟩ = some (.slice (some ⟨gA, 0, none⟩) a.length cv) ∧ w'.cell? ⟨w.heap.size, 0, none⟩ = some (.int .i64 wd) ∧ w'.cell? ⟨gA, q * 2, none⟩ = some (.string tq)) (by kernel_rfl) ?_
      change wpAnyH _ _ _ _ _ _ _ _ (World.drew _)
      refine tkA 0 (.int .i64 (q : Nat)) rfl hS0 ?_
      refine tkA 1 (.pointer (some ⟨w3.heap.size, 2, none⟩)) rfl hS0 ?_
      refine tkA 2 (.slice (some ⟨gA, 0, none⟩) a.length cv) rfl hS0 ?_
      refine tkA 3 (.int .i64 (a.length : Nat)) rfl hS0 ?_
      refine tkA 4 (.bool true) rfl hS0 ?_
      refine tkA 5 (.bool true) rfl hS0 ?_
      refine tkG 6 (.pointer (some ⟨w3.heap.size, 2, none⟩)) rfl hS0 ?_
      refine tkG 7 (.slice (some ⟨gA, 0, none⟩) a.length cv) rfl hS0 ?_
      refine tkG 8 (.int .i64 (q : Nat)) rfl hS0 ?_
      refine tkG 9 (.pointer (some ⟨gA, q * 2, none⟩)) rfl hS0 ?_
      refine tkG 10 (.pointer (some ⟨gA, q * 2, none⟩)) rfl hS0 ?_
      refine tkG 11 (.string tq) rfl hS0 ?_
      refine tkG 12 (.pointer (some ⟨w.heap.size, 0, none⟩)) rfl hS0 ?_
      refine tkG 13 (.int .i64 wd) rfl hS0 ?_
      refine tkG 15 (.string (sumX wd t)) rfl hS0 ?_
      refine held_one 14 (by kernel_rfl) ?_
      refine @op_wpW _ _ _ _ _ _ 14 ?oya ?hoya ?hwya ?hhya
      case hoya => rfl
      case hwya => go_simp
      unfold Oper.wp
      go_simp
      refine HSU.out.mono ?_
      rintro e w10 ⟨rfl, hb10⟩
      have hb10' : Below wr.heap.size wr w10 := ⟨hb10.os, hb10.tape, hb10.output, hb10.size, hb10.block⟩
      have hS1 := HFY.out w10 hb10'
      refine ⟨hS1, ?_⟩
      refine tkG 16 (.bool true) rfl hS1 ?_
      refine tkA 17 (.bool true) rfl hS1 ?_
      refine wpAnyH_done (by kernel_rfl) ?_ _
      have HB10 := hid (HBZ.out.trans (hb10'.mono HBZ.out.size))
      clear hS0 hS1 hb10 hb10'
      go_simp
      go_wp2
      exact ⟨⟨q + 1, by go_num, by omega, HNX.out, HB10.out⟩, by simp [intOf]; omega⟩
     | false =>
      have HCUT : Hid (q = cutI wd (sumX wd t) a) := hid (cutI_is HAA.out (by omega) HLESS.out (fun _ => by rw [HTQ.out]; exact hcmp))
      go_wp2_with fail
      refine wp_region_held (S := fun w' => w'.cell? ⟨w3.heap.size, 2, none⟩ = some (.slice (some ⟨gA, 0, none⟩) a.length cv) ∧ w'.cell? ⟨w.heap.size, 0, none⟩ = some (.int .i64 wd) ∧ w'.cell? ⟨gA, q * 2, none⟩ = some (.string tq)) (by kernel_rfl) ?_
      change wpAnyH _ _ _ _ _ _ _ _ (World.drew _)
      refine tkA 0 (.int .i64 (q : Nat)) rfl hS0 ?_
      refine tkA 1 (.pointer (some ⟨w3.heap.size, 2, none⟩)) rfl hS0 ?_
      refine tkA 2 (.slice (some ⟨gA, 0, none⟩) a.length cv) rfl hS0 ?_
      refine tkA 3 (.int .i64 (a.length : Nat)) rfl hS0 ?_
      refine tkA 4 (.bool true) rfl hS0 ?_
      refine tkA 5 (.bool true) rfl hS0 ?_
      refine tkG 6 (.pointer (some ⟨w3.heap.size, 2, none⟩)) rfl hS0 ?_
      refine tkG 7 (.slice (some ⟨gA, 0, none⟩) a.length cv) rfl hS0 ?_
      refine tkG 8 (.int .i64 (q : Nat)) rfl hS0 ?_
      refine tkG 9 (.pointer (some ⟨gA, q * 2, none⟩)) rfl hS0 ?_
      refine tkG 10 (.pointer (some ⟨gA, q * 2, none⟩)) rfl hS0 ?_
      refine tkG 11 (.string tq) rfl hS0 ?_
      refine tkG 12 (.pointer (some ⟨w.heap.size, 0, none⟩)) rfl hS0 ?_
      refine tkG 13 (.int .i64 wd) rfl hS0 ?_
      refine tkG 15 (.string (sumX wd t)) rfl hS0 ?_
      refine held_one 14 (by kernel_rfl) ?_
      refine @op_wpW _ _ _ _ _ _ 14 ?oyb ?hoyb ?hwyb ?hhyb
      case hoyb => rfl
      case hwyb => go_simp
      unfold Oper.wp
      go_simp
      refine HSU.out.mono ?_
      rintro e w10 ⟨rfl, hb10⟩
      have hb10' : Below wr.heap.size wr w10 := ⟨hb10.os, hb10.tape, hb10.output, hb10.size, hb10.block⟩
      have hS1 := HFY.out w10 hb10'
      refine ⟨hS1, ?_⟩
      refine tkG 16 (.bool false) rfl hS1 ?_
      refine tkA 17 (.bool false) rfl hS1 ?_
      refine wpAnyH_done (by kernel_rfl) ?_ _
      have HB10 := hid (HBZ.out.trans (hb10'.mono HBZ.out.size))
      clear hS0 hS1 hb10 hb10'
      go_simp
      go_wp2_with fail
      have B20 : Below w8.heap.size w8 w10 := HB10.out
      have HO20 := hid (HO8.out.below B20)
      have HI20 := hid (HI8.out.kept (grown_of_below B20) (.inr (fun e => by cases e)))
      have HT20 : Hid (But (fun b => b = w3.heap.size) w7 w10) := hid (HT8.out.trans (But.of_below B20) (fun _ _ h => h))
      have hs20 := B20.size
      have hcap : a.length ≤ cv := by
       obtain ⟨_, ⟨e, _⟩ | ⟨g', cap', cur, e1, _, _, e4, _⟩⟩ := HI20.out
       ·cases e
       ·have := (Value.slice.inj e1).2.2
        omega
      obtain ⟨o, ho, hoc⟩ : ∃ o, (if cv = q then some (⟨gA, 0, none⟩ : Addr) else some ⟨gA, q * 2, none⟩) = some ⟨gA, o, none⟩ ∧ (cv = q ∨ o = q * 2) := by
       by_cases e : cv = q
       ·exact ⟨0, by rw [if_pos e], .inl e⟩
       ·exact ⟨q * 2, by rw [if_neg e], .inr rfl⟩
      have HOC := hid hoc
      have hqc : q ≤ cv := by omega
      have hS0 : w10.drew.cell? ⟨w3.heap.size, 2, none⟩ = some (.slice (some ⟨gA, 0, none⟩) a.length cv) := HO20.out.cell 2
      clear hoc B20
      refine wp_region_last 17 (S := fun w' => w'.cell? ⟨w3.heap.size, 2, none⟩ = some (.slice (some ⟨gA, 0, none⟩) a.length cv)) (by kernel_rfl) ?_
      change wpAnyC _ _ _ _ _ _ _ _ _ (World.drew _)
      refine tkL 1 (.pointer (some ⟨w3.heap.size, 2, none⟩)) rfl hS0 ?_
      refine tkL 2 (.slice (some ⟨gA, 0, none⟩) a.length cv) rfl hS0 ?_
      refine tkL 3 (.int .i64 (q : Nat)) rfl hS0 ?_
      refine tkL 4 (.slice (some ⟨gA, 0, none⟩) q cv) rfl hS0 ?_
      refine tkL 6 (.string t) rfl hS0 ?_
      refine tkL 7 (.int .i64 now) rfl hS0 ?_
      refine tkL 8 (.agg #[.string t, .int .i64 now]) rfl hS0 ?_
      refine tkL 11 (.pointer (some ⟨w3.heap.size, 2, none⟩)) rfl hS0 ?_
      refine tkL 12 (.slice (some ⟨gA, 0, none⟩) a.length cv) rfl hS0 ?_
      refine tkL 13 (.int .i64 (q : Nat)) rfl hS0 ?_
      refine lastH_take (i := 14) (v := .slice (some ⟨gA, o, none⟩) (a.length - q) (cv - q)) 20 rfl (by kernel_rfl) (by kernel_rfl) (by kernel_rfl) (by kernel_rfl) (fun _ _ _ h => h) (.inl ⟨rfl, fun w' hS => by first | (go_simp; done) | (go_simp; intro h; exfalso; have h2 := h (by omega); omega) | (go_simp; intro h; exfalso; omega)⟩) hS0 ?_
      obtain ⟨i0, hi0, hz0, hz1, hz2⟩ := info_parts Tryz.infoItem
      have HCT := hid fun (X : World) (h : Below w10.heap.size w10 X) => (show ∀ j u, ((cellsI a).take (q * 2))[j]? = some u → X.cell? ((⟨gA, 0, none⟩ : Addr).add j) = some u from fun j u hj => by
       have hj' : (cellsI a)[j]? = some u := by
        rw [List.getElem?_take] at hj
        split at hj
        ·exact hj
        ·cases hj
       exact World.ownsRow.cells (HI20.out.kept (grown_of_below h) (.inr (fun e => by cases e))) (g := gA) rfl j u hj')
      have HCD := hid fun (X : World) (h : Below w10.heap.size w10 X) => (show ∀ j u, ((cellsI a).drop (q * 2))[j]? = some u → X.cell? ((⟨gA, o, none⟩ : Addr).add j) = some u from fun j u hj => by
       have hl : j < a.length * 2 - q * 2 := by
        have := (List.getElem?_eq_some_iff.1 hj).1
        rw [List.length_drop, cellsI_len] at this
        exact this
       have e : o = q * 2 := HOC.out.elim (fun h => by omega) id
       rw [List.getElem?_drop] at hj
       have h1 := World.ownsRow.cells (HI20.out.kept (grown_of_below h) (.inr (fun e => by cases e))) (g := gA) rfl _ u hj
       have e2 : (⟨gA, o, none⟩ : Addr).add j = (⟨gA, 0, none⟩ : Addr).add (q * 2 + j) := by rw [addr_add', addr_add', e, Nat.zero_add]
       rw [e2]
       exact h1)
      have hbE : Below w10.heap.size w10 (w10.drew.alloc (.cells #[] 59)) := (below_drewN (Below.refl _ _) 1).alloc (Nat.le_refl _) (.cells #[] 59)
      have hbI : Below w10.heap.size w10 (w10.drew.alloc (.cells #[.string t, .int .i64 now] 59)) := (below_drewN (Below.refl _ _) 1).alloc (Nat.le_refl _) (.cells #[.string t, .int .i64 now] 59)
      have hbEI := hbE.alloc hbE.size (.cells #[.string t, .int .i64 now] 59)
      have hbIE := hbI.alloc hbI.size (.cells #[] 59)
      have hSE : (w10.drew.alloc (.cells #[] 59)).cell? ⟨w3.heap.size, 2, none⟩ = some (.slice (some ⟨gA, 0, none⟩) a.length cv) := (HO20.out.below hbE).cell 2
      have hSI : (w10.drew.alloc (.cells #[.string t, .int .i64 now] 59)).cell? ⟨w3.heap.size, 2, none⟩ = some (.slice (some ⟨gA, 0, none⟩) a.length cv) := (HO20.out.below hbI).cell 2
      have hSEI : ((w10.drew.alloc (.cells #[] 59)).alloc (.cells #[.string t, .int .i64 now] 59)).cell? ⟨w3.heap.size, 2, none⟩ = some (.slice (some ⟨gA, 0, none⟩) a.length cv) := (HO20.out.below hbEI).cell 2
      have hSIE : ((w10.drew.alloc (.cells #[.string t, .int .i64 now] 59)).alloc (.cells #[] 59)).cell? ⟨w3.heap.size, 2, none⟩ = some (.slice (some ⟨gA, 0, none⟩) a.length cv) := (HO20.out.below hbIE).cell 2
      have hOE : (w10.drew.alloc (.cells #[] 59)).ownsRow w10.heap.size 59 2 (.slice (some ⟨w10.heap.size, 0, none⟩) 0 0) 0 [] := World.ownsRow_made (base := w10.heap.size) (e := 59) (size := 2) w10.drew #[] 0 (Nat.le_refl _) (by simp [maxLen]) rfl
      have hOEI := hOE.alloc (.cells #[.string t, .int .i64 now] 59)
      have hOIE : ((w10.drew.alloc (.cells #[.string t, .int .i64 now] 59)).alloc (.cells #[] 59)).ownsRow w10.heap.size 59 2 (.slice (some ⟨w10.heap.size + 1, 0, none⟩) 0 0) 0 [] := by
       have h := World.ownsRow_made (base := w10.heap.size) (e := 59) (size := 2) (w10.drew.alloc (.cells #[.string t, .int .i64 now] 59)) #[] 0 (by rw [World.size_alloc]; exact Nat.le_succ _) (by simp [maxLen]) rfl
       rw [World.size_alloc] at h
       exact h
      have HIEI : Hid (Blk ((w10.drew.alloc (.cells #[] 59)).alloc (.cells #[.string t, .int .i64 now] 59)) (w10.heap.size + 1) 59 #[.string t, .int .i64 now]) := hid (by
       have h := Blk.new (w10.drew.alloc (.cells #[] 59)) 59 #[.string t, .int .i64 now]
       rw [World.size_alloc] at h
       exact h)
      have HIIE : Hid (Blk ((w10.drew.alloc (.cells #[.string t, .int .i64 now] 59)).alloc (.cells #[] 59)) w10.heap.size 59 #[.string t, .int .i64 now]) := hid ((Blk.new w10.drew 59 #[.string t, .int .i64 now]).alloc (.cells #[] 59))
      have hlenT : ((cellsI a).take (q * 2)).length = q * 2 := by rw [List.length_take, cellsI_len]; omega
      refine last_two 0 9 (by kernel_rfl) (op_value (v := .slice (some ⟨w10.heap.size, 0, none⟩) 0 0) (w' := w10.drew.alloc (.cells #[] 59)) rfl rfl (by go_simp) ⟨fun _ => hSE, ?_⟩) (op_value (v := .slice (some ⟨w10.heap.size, 0, none⟩) 1 1) (w' := w10.drew.alloc (.cells #[.string t, .int .i64 now] 59)) rfl rfl (by go_simp) ⟨fun _ => hSI, ?_⟩)
      ·refine last_two 5 9 (by kernel_rfl) (op_wp rfl rfl (wp_append_own _ (.tmp 103) (.tmp 107) 23 rfl w10.heap.size 59 i0 (.agg #[.string ⟨#[]⟩, .int .i64 0]) 2 24 Tryz.underlying23 hi0 hz0 hz1 hz2 rfl (by decide) (.slice (some ⟨w10.heap.size, 0, none⟩) 0 0) 0 [] (by go_simp) hOE ⟨gA, 0, none⟩ q cv ((cellsI a).take (q * 2)) (by go_simp) hlenT (HCT.out _ hbE) (fun u hu => cellsI_one a u (List.mem_of_mem_take hu)) (by unfold maxLen; omega) (by omega) (by rw [World.size_alloc]; exact Nat.le_succ _) ?_)) (op_value (v := .slice (some ⟨w10.heap.size + 1, 0, none⟩) 1 1) (w' := (w10.drew.alloc (.cells #[] 59)).alloc (.cells #[.string t, .int .i64 now] 59)) rfl rfl (by go_simp) ⟨fun _ => hSEI, ?_⟩)
       ·intro v5 w15 hown5' hgrow5 _
        have B15 : Below w10.heap.size w10 w15 := hbE.trans ((Below.refl w10.heap.size _).grown hgrow5 (by rw [World.size_alloc]; exact Nat.le_succ _) (fun z e => (hOE.lt z e).1))
        have hS5 : w15.cell? ⟨w3.heap.size, 2, none⟩ = some (.slice (some ⟨gA, 0, none⟩) a.length cv) := (HO20.out.below B15).cell 2
        have hBA := B15.alloc B15.size (.cells #[.string t, .int .i64 now] 59)
        have hSA : (w15.alloc (.cells #[.string t, .int .i64 now] 59)).cell? ⟨w3.heap.size, 2, none⟩ = some (.slice (some ⟨gA, 0, none⟩) a.length cv) := (HO20.out.below hBA).cell 2
        have hown5 := hown5'.alloc (.cells #[.string t, .int .i64 now] 59)
        have hit := two_new w15 (.string t) (.int .i64 now) 59
        refine ⟨fun _ => hS5, ?_⟩
        refine last_one 9 (by kernel_rfl) (op_value (v := .slice (some ⟨w15.heap.size, 0, none⟩) 1 1) (w' := w15.alloc (.cells #[.string t, .int .i64 now] 59)) rfl rfl (by go_simp) ⟨fun _ => hSA, ?_⟩)
        have hsA := hBA.size
        obtain ⟨a5, c5, rfl⟩ := row_any hown5
        refine last_one 10 (by kernel_rfl) (op_wp rfl rfl (wp_append_own _ (.tmp 108) (.tmp 112) 23 rfl w10.heap.size 59 i0 (.agg #[.string ⟨#[]⟩, .int .i64 0]) 2 24 Tryz.underlying23 hi0 hz0 hz1 hz2 rfl (by decide) (.slice a5 (0 + q) c5) (0 + q) _ (by go_simp) hown5 ⟨w15.heap.size, 0, none⟩ 1 1 [.string t, .int .i64 now] (by go_simp) rfl hit (by simp [Value.oneCell']) (by unfold maxLen; omega) (by omega) hsA ?_))
        intro v7 w17 hown7 hgrow7 _
        have B17 : Below w10.heap.size w10 w17 := hBA.trans ((Below.refl w10.heap.size (w15.alloc (.cells #[.string t, .int .i64 now] 59))).grown hgrow7 hsA (fun z e => (hown5.lt z e).1))
        have hS7 : w17.cell? ⟨w3.heap.size, 2, none⟩ = some (.slice (some ⟨gA, 0, none⟩) a.length cv) := (HO20.out.below B17).cell 2
        have hs17' := B17.size
        obtain ⟨a7, c7, rfl⟩ := row_any hown7
        refine ⟨fun _ => hS7, ?_⟩
        refine last_one 15 (by kernel_rfl) (op_wp rfl rfl (wp_append_own _ (.tmp 113) (.tmp 117) 23 rfl w10.heap.size 59 i0 (.agg #[.string ⟨#[]⟩, .int .i64 0]) 2 24 Tryz.underlying23 hi0 hz0 hz1 hz2 rfl (by decide) (.slice a7 (0 + q + 1) c7) (0 + q + 1) _ (by go_simp) hown7 ⟨gA, o, none⟩ (a.length - q) (cv - q) ((cellsI a).drop (q * 2)) (by go_simp) (by rw [List.length_drop, cellsI_len]; omega) (HCD.out w17 B17) (fun u hu => cellsI_one a u (List.mem_of_mem_drop hu)) (by unfold maxLen; omega) (by omega) hs17' ?_))
        intro v6 w18 hown6 hgrow6 _
        have B18 : Below w10.heap.size w10 w18 := B17.trans ((Below.refl w10.heap.size w17).grown hgrow6 hs17' (fun z e => (hown7.lt z e).1))
        have O18 := HO20.out.below B18
        have hS8 : w18.cell? ⟨w3.heap.size, 2, none⟩ = some (.slice (some ⟨gA, 0, none⟩) a.length cv) := O18.cell 2
        have hrow6 : w18.ownsRow w10.heap.size 59 2 v6 (insI wd a t now).length (cellsI (insI wd a t now)) := by
         have e1 : (insI wd a t now).length = 0 + q + 1 + (a.length - q) := by rw [ins_len]; omega
         have e2 : cellsI (insI wd a t now) = [] ++ (cellsI a).take (q * 2) ++ [.string t, .int .i64 now] ++ (cellsI a).drop (q * 2) := by
          unfold insI
          rw [← HCUT.out]
          exact cellsI_ins a q t now (by omega)
         rw [e1, e2]
         exact hown6
        obtain ⟨a6, c6, rfl⟩ := row_any hrow6
        refine ⟨fun _ => hS8, ?_⟩
        refine tkL 16 (.pointer (some ⟨w3.heap.size, 2, none⟩)) rfl hS8 ?_
        have f8 := O18.fz 2
        have O19 : Blk (w18.setCell ⟨w3.heap.size, 2, none⟩ (.slice a6 (insI wd a t now).length c6)) w3.heap.size 26 #[.int .i64 wd, .int .i64 room, .slice a6 (insI wd a t now).length c6, .slice b4 ts.length d4] := O18.set 2 (.slice a6 (insI wd a t now).length c6)
        have G19 := grownBy_setCellAt w18 w3.heap.size 2 (.slice a6 (insI wd a t now).length c6)
        have R19 := hrow6.kept G19 (.inr fun e => by have := (hrow6.lt _ e).1; omega)
        have T19 := (HT20.out.trans (But.of_below B18) (fun _ _ h => h)).trans (But.of_grown (P := fun b => b = w3.heap.size) G19 rfl) (fun _ _ h => h)
        refine last_one 17 (by kernel_rfl) (op_skip (w' := w18.setCell ⟨w3.heap.size, 2, none⟩ (.slice a6 (insI wd a t now).length c6)) rfl rfl (by go_simp) ⟨fun h => absurd rfl h, last_done (by kernel_rfl) ?_ _⟩)
        generalize w18.setCell ⟨w3.heap.size, 2, none⟩ (.slice a6 (insI wd a t now).length c6) = w19 at O19 R19 T19 ⊢
        have Z19 := T19.blk HZ7.out (fun e => by have e' : w.heap.size + 1 = w3.heap.size := e; omega)
        have P19 := T19.row HP7.out (fun g e h' => row_no_blk HP7.out HO7.out (by decide) (by rw [e, h']))
        have BF : Below w.heap.size w w19 := HB7.out.trans (T19.below (B := w.heap.size) (by have := HB7.out.size; omega) (fun b e => by have e' : b = w3.heap.size := e; omega))
        have SO : StoreOwn w19 (w.heap.size + 2) (.slice a6 (insI wd a t now).length c6) (.slice b4 ts.length d4) (insI wd a t now) ts := ⟨ownsRow_base2 R19 (by omega), ownsRow_base2 P19 (by omega), fun g e1 e2 => rows_apart R19 P19 (by decide) e1 e2⟩
        have HF : Hid (PutR wd room its ts t now wd room (insI wd a t now) ts 0) := hid (.inr ⟨⟨HVAL.out, HPU.out⟩, 0, _, .put k a HNO.out HAW.out HFIT.out HBEF.out, rfl, .inr ⟨rfl, rfl, rfl, rfl, rfl⟩⟩)
        have q0 : w19.cell? ⟨w3.heap.size, 0, none⟩ = some (.int .i64 wd) := O19.cell 0
        have q1 : w19.cell? ⟨w3.heap.size, 1, none⟩ = some (.int .i64 room) := O19.cell 1
        have q2 : w19.cell? ⟨w3.heap.size, 2, none⟩ = some (.slice a6 (insI wd a t now).length c6) := O19.cell 2
        have q3 : w19.cell? ⟨w3.heap.size, 3, none⟩ = some (.slice b4 ts.length d4) := O19.cell 3
        have s9 := Z19.store4 (.int .i64 wd) (.int .i64 room) (.slice a6 (insI wd a t now).length c6) (.slice b4 ts.length d4)
        have s0 := s9.a0; have s1 := s9.a1; have s2 := s9.a2; have s3 := s9.a3
        have k0 := s9.f0; have k1 := s9.f1; have k2 := s9.f2; have k3 := s9.f3
        have ZZ := hid s9.z
        have BB := hid ((((BF.setCell (p := ⟨w.heap.size + 1, 0, none⟩) (by simp) (.int .i64 wd)).setCell (p := ⟨w.heap.size + 1, 1, none⟩) (by simp) (.int .i64 room)).setCell (p := ⟨w.heap.size + 1, 2, none⟩) (by simp) (.slice a6 (insI wd a t now).length c6)).setCell (p := ⟨w.heap.size + 1, 3, none⟩) (by simp) (.slice b4 ts.length d4))
        have GG := fun (x : World) (j : Nat) (y : Value) => grownBy_setCellAt x (w.heap.size + 1) j y
        have SO4 := hid ((((SO.kept (GG _ 0 (.int .i64 wd)) (by omega)).kept (GG _ 1 (.int .i64 room)) (by omega)).kept (GG _ 2 (.slice a6 (insI wd a t now).length c6)) (by omega)).kept (GG _ 3 (.slice b4 ts.length d4)) (by omega))
        clear s9 GG SO O18 B18 B17 hS7 hS8 hown5 hown6 hown7 hgrow6 hgrow7 hrow6 f8 O19 R19 T19 Z19 P19 BF G19 hit hBA hS0
        go_simp
        go_wp2
        exact bodyPost_ret (v := .tuple #[.agg #[.int .i64 wd, .int .i64 room, .slice a6 (insI wd a t now).length c6, .slice b4 ts.length d4], .int .i64 0]) (by simp [results, Tryz.results28, go_sem, ZZ.out.cell]) rfl ⟨wd, room, _, ts, 0, _, _, rfl, HF.out, SO4.out, BB.out⟩
       ·refine last_one 5 (by kernel_rfl) (op_wp rfl rfl (wp_append_own _ (.tmp 103) (.tmp 107) 23 rfl w10.heap.size 59 i0 (.agg #[.string ⟨#[]⟩, .int .i64 0]) 2 24 Tryz.underlying23 hi0 hz0 hz1 hz2 rfl (by decide) (.slice (some ⟨w10.heap.size, 0, none⟩) 0 0) 0 [] (by go_simp) hOEI ⟨gA, 0, none⟩ q cv ((cellsI a).take (q * 2)) (by go_simp) hlenT (HCT.out _ hbEI) (fun u hu => cellsI_one a u (List.mem_of_mem_take hu)) (by unfold maxLen; omega) (by omega) hbEI.size ?_))
        intro v5 w15 hown5 hgrow5 _
        have hBA : Below w10.heap.size w10 w15 := hbEI.trans ((Below.refl w10.heap.size _).grown hgrow5 hbEI.size (fun z e => (hOEI.lt z e).1))
        have hSA : w15.cell? ⟨w3.heap.size, 2, none⟩ = some (.slice (some ⟨gA, 0, none⟩) a.length cv) := (HO20.out.below hBA).cell 2
        have NI : Blk w15 (w10.heap.size + 1) 59 #[.string t, .int .i64 now] := HIEI.out.kept hgrow5 (fun e => by have e' : w10.heap.size + 1 = w10.heap.size := Option.some.inj e; omega)
        have hit : ∀ j u, [Value.string t, Value.int .i64 now][j]? = some u → w15.cell? ((⟨w10.heap.size + 1, 0, none⟩ : Addr).add j) = some u := fun j u hj => by rw [addr_add', Nat.zero_add, NI.cell j]; simpa using hj
        refine ⟨fun _ => hSA, ?_⟩
        have hsA := hBA.size
        obtain ⟨a5, c5, rfl⟩ := row_any hown5
        refine last_one 10 (by kernel_rfl) (op_wp rfl rfl (wp_append_own _ (.tmp 108) (.tmp 112) 23 rfl w10.heap.size 59 i0 (.agg #[.string ⟨#[]⟩, .int .i64 0]) 2 24 Tryz.underlying23 hi0 hz0 hz1 hz2 rfl (by decide) (.slice a5 (0 + q) c5) (0 + q) _ (by go_simp) hown5 ⟨w10.heap.size + 1, 0, none⟩ 1 1 [.string t, .int .i64 now] (by go_simp) rfl hit (by simp [Value.oneCell']) (by unfold maxLen; omega) (by omega) hsA ?_))
        intro v7 w17 hown7 hgrow7 _
        have B17 : Below w10.heap.size w10 w17 := hBA.trans ((Below.refl w10.heap.size w15).grown hgrow7 hsA (fun z e => (hown5.lt z e).1))
        have hS7 : w17.cell? ⟨w3.heap.size, 2, none⟩ = some (.slice (some ⟨gA, 0, none⟩) a.length cv) := (HO20.out.below B17).cell 2
        have hs17' := B17.size
        obtain ⟨a7, c7, rfl⟩ := row_any hown7
        refine ⟨fun _ => hS7, ?_⟩
        refine last_one 15 (by kernel_rfl) (op_wp rfl rfl (wp_append_own _ (.tmp 113) (.tmp 117) 23 rfl w10.heap.size 59 i0 (.agg #[.string ⟨#[]⟩, .int .i64 0]) 2 24 Tryz.underlying23 hi0 hz0 hz1 hz2 rfl (by decide) (.slice a7 (0 + q + 1) c7) (0 + q + 1) _ (by go_simp) hown7 ⟨gA, o, none⟩ (a.length - q) (cv - q) ((cellsI a).drop (q * 2)) (by go_simp) (by rw [List.length_drop, cellsI_len]; omega) (HCD.out w17 B17) (fun u hu => cellsI_one a u (List.mem_of_mem_drop hu)) (by unfold maxLen; omega) (by omega) hs17' ?_))
        intro v6 w18 hown6 hgrow6 _
        have B18 : Below w10.heap.size w10 w18 := B17.trans ((Below.refl w10.heap.size w17).grown hgrow6 hs17' (fun z e => (hown7.lt z e).1))
        have O18 := HO20.out.below B18
        have hS8 : w18.cell? ⟨w3.heap.size, 2, none⟩ = some (.slice (some ⟨gA, 0, none⟩) a.length cv) := O18.cell 2
        have hrow6 : w18.ownsRow w10.heap.size 59 2 v6 (insI wd a t now).length (cellsI (insI wd a t now)) := by
         have e1 : (insI wd a t now).length = 0 + q + 1 + (a.length - q) := by rw [ins_len]; omega
         have e2 : cellsI (insI wd a t now) = [] ++ (cellsI a).take (q * 2) ++ [.string t, .int .i64 now] ++ (cellsI a).drop (q * 2) := by
          unfold insI
          rw [← HCUT.out]
          exact cellsI_ins a q t now (by omega)
         rw [e1, e2]
         exact hown6
        obtain ⟨a6, c6, rfl⟩ := row_any hrow6
        refine ⟨fun _ => hS8, ?_⟩
        refine tkL 16 (.pointer (some ⟨w3.heap.size, 2, none⟩)) rfl hS8 ?_
        have f8 := O18.fz 2
        have O19 : Blk (w18.setCell ⟨w3.heap.size, 2, none⟩ (.slice a6 (insI wd a t now).length c6)) w3.heap.size 26 #[.int .i64 wd, .int .i64 room, .slice a6 (insI wd a t now).length c6, .slice b4 ts.length d4] := O18.set 2 (.slice a6 (insI wd a t now).length c6)
        have G19 := grownBy_setCellAt w18 w3.heap.size 2 (.slice a6 (insI wd a t now).length c6)
        have R19 := hrow6.kept G19 (.inr fun e => by have := (hrow6.lt _ e).1; omega)
        have T19 := (HT20.out.trans (But.of_below B18) (fun _ _ h => h)).trans (But.of_grown (P := fun b => b = w3.heap.size) G19 rfl) (fun _ _ h => h)
        refine last_one 17 (by kernel_rfl) (op_skip (w' := w18.setCell ⟨w3.heap.size, 2, none⟩ (.slice a6 (insI wd a t now).length c6)) rfl rfl (by go_simp) ⟨fun h => absurd rfl h, last_done (by kernel_rfl) ?_ _⟩)
        generalize w18.setCell ⟨w3.heap.size, 2, none⟩ (.slice a6 (insI wd a t now).length c6) = w19 at O19 R19 T19 ⊢
        have Z19 := T19.blk HZ7.out (fun e => by have e' : w.heap.size + 1 = w3.heap.size := e; omega)
        have P19 := T19.row HP7.out (fun g e h' => row_no_blk HP7.out HO7.out (by decide) (by rw [e, h']))
        have BF : Below w.heap.size w w19 := HB7.out.trans (T19.below (B := w.heap.size) (by have := HB7.out.size; omega) (fun b e => by have e' : b = w3.heap.size := e; omega))
        have SO : StoreOwn w19 (w.heap.size + 2) (.slice a6 (insI wd a t now).length c6) (.slice b4 ts.length d4) (insI wd a t now) ts := ⟨ownsRow_base2 R19 (by omega), ownsRow_base2 P19 (by omega), fun g e1 e2 => rows_apart R19 P19 (by decide) e1 e2⟩
        have HF : Hid (PutR wd room its ts t now wd room (insI wd a t now) ts 0) := hid (.inr ⟨⟨HVAL.out, HPU.out⟩, 0, _, .put k a HNO.out HAW.out HFIT.out HBEF.out, rfl, .inr ⟨rfl, rfl, rfl, rfl, rfl⟩⟩)
        have q0 : w19.cell? ⟨w3.heap.size, 0, none⟩ = some (.int .i64 wd) := O19.cell 0
        have q1 : w19.cell? ⟨w3.heap.size, 1, none⟩ = some (.int .i64 room) := O19.cell 1
        have q2 : w19.cell? ⟨w3.heap.size, 2, none⟩ = some (.slice a6 (insI wd a t now).length c6) := O19.cell 2
        have q3 : w19.cell? ⟨w3.heap.size, 3, none⟩ = some (.slice b4 ts.length d4) := O19.cell 3
        have s9 := Z19.store4 (.int .i64 wd) (.int .i64 room) (.slice a6 (insI wd a t now).length c6) (.slice b4 ts.length d4)
        have s0 := s9.a0; have s1 := s9.a1; have s2 := s9.a2; have s3 := s9.a3
        have k0 := s9.f0; have k1 := s9.f1; have k2 := s9.f2; have k3 := s9.f3
        have ZZ := hid s9.z
        have BB := hid ((((BF.setCell (p := ⟨w.heap.size + 1, 0, none⟩) (by simp) (.int .i64 wd)).setCell (p := ⟨w.heap.size + 1, 1, none⟩) (by simp) (.int .i64 room)).setCell (p := ⟨w.heap.size + 1, 2, none⟩) (by simp) (.slice a6 (insI wd a t now).length c6)).setCell (p := ⟨w.heap.size + 1, 3, none⟩) (by simp) (.slice b4 ts.length d4))
        have GG := fun (x : World) (j : Nat) (y : Value) => grownBy_setCellAt x (w.heap.size + 1) j y
        have SO4 := hid ((((SO.kept (GG _ 0 (.int .i64 wd)) (by omega)).kept (GG _ 1 (.int .i64 room)) (by omega)).kept (GG _ 2 (.slice a6 (insI wd a t now).length c6)) (by omega)).kept (GG _ 3 (.slice b4 ts.length d4)) (by omega))
        clear s9 GG SO O18 B18 B17 hS7 hS8 hown5 hown6 hown7 hgrow6 hgrow7 hrow6 f8 O19 R19 T19 Z19 P19 BF G19 hit hBA hS0
        go_simp
        go_wp2
        exact bodyPost_ret (v := .tuple #[.agg #[.int .i64 wd, .int .i64 room, .slice a6 (insI wd a t now).length c6, .slice b4 ts.length d4], .int .i64 0]) (by simp [results, Tryz.results28, go_sem, ZZ.out.cell]) rfl ⟨wd, room, _, ts, 0, _, _, rfl, HF.out, SO4.out, BB.out⟩
      ·refine last_one 0 (by kernel_rfl) (op_value (v := .slice (some ⟨w10.heap.size + 1, 0, none⟩) 0 0) (w' := (w10.drew.alloc (.cells #[.string t, .int .i64 now] 59)).alloc (.cells #[] 59)) rfl rfl (by go_simp) ⟨fun _ => hSIE, ?_⟩)
       refine last_one 5 (by kernel_rfl) (op_wp rfl rfl (wp_append_own _ (.tmp 103) (.tmp 107) 23 rfl w10.heap.size 59 i0 (.agg #[.string ⟨#[]⟩, .int .i64 0]) 2 24 Tryz.underlying23 hi0 hz0 hz1 hz2 rfl (by decide) (.slice (some ⟨w10.heap.size + 1, 0, none⟩) 0 0) 0 [] (by go_simp) hOIE ⟨gA, 0, none⟩ q cv ((cellsI a).take (q * 2)) (by go_simp) hlenT (HCT.out _ hbIE) (fun u hu => cellsI_one a u (List.mem_of_mem_take hu)) (by unfold maxLen; omega) (by omega) hbIE.size ?_))
       intro v5 w15 hown5 hgrow5 _
       have hBA : Below w10.heap.size w10 w15 := hbIE.trans ((Below.refl w10.heap.size _).grown hgrow5 hbIE.size (fun z e => (hOIE.lt z e).1))
       have hSA : w15.cell? ⟨w3.heap.size, 2, none⟩ = some (.slice (some ⟨gA, 0, none⟩) a.length cv) := (HO20.out.below hBA).cell 2
       have NI : Blk w15 w10.heap.size 59 #[.string t, .int .i64 now] := HIIE.out.kept hgrow5 (fun e => by have e' : w10.heap.size = w10.heap.size + 1 := Option.some.inj e; omega)
       have hit : ∀ j u, [Value.string t, Value.int .i64 now][j]? = some u → w15.cell? ((⟨w10.heap.size, 0, none⟩ : Addr).add j) = some u := fun j u hj => by rw [addr_add', Nat.zero_add, NI.cell j]; simpa using hj
       refine ⟨fun _ => hSA, ?_⟩
       have hsA := hBA.size
       obtain ⟨a5, c5, rfl⟩ := row_any hown5
       refine last_one 10 (by kernel_rfl) (op_wp rfl rfl (wp_append_own _ (.tmp 108) (.tmp 112) 23 rfl w10.heap.size 59 i0 (.agg #[.string ⟨#[]⟩, .int .i64 0]) 2 24 Tryz.underlying23 hi0 hz0 hz1 hz2 rfl (by decide) (.slice a5 (0 + q) c5) (0 + q) _ (by go_simp) hown5 ⟨w10.heap.size, 0, none⟩ 1 1 [.string t, .int .i64 now] (by go_simp) rfl hit (by simp [Value.oneCell']) (by unfold maxLen; omega) (by omega) hsA ?_))
       intro v7 w17 hown7 hgrow7 _
       have B17 : Below w10.heap.size w10 w17 := hBA.trans ((Below.refl w10.heap.size w15).grown hgrow7 hsA (fun z e => (hown5.lt z e).1))
       have hS7 : w17.cell? ⟨w3.heap.size, 2, none⟩ = some (.slice (some ⟨gA, 0, none⟩) a.length cv) := (HO20.out.below B17).cell 2
       have hs17' := B17.size
       obtain ⟨a7, c7, rfl⟩ := row_any hown7
       refine ⟨fun _ => hS7, ?_⟩
       refine last_one 15 (by kernel_rfl) (op_wp rfl rfl (wp_append_own _ (.tmp 113) (.tmp 117) 23 rfl w10.heap.size 59 i0 (.agg #[.string ⟨#[]⟩, .int .i64 0]) 2 24 Tryz.underlying23 hi0 hz0 hz1 hz2 rfl (by decide) (.slice a7 (0 + q + 1) c7) (0 + q + 1) _ (by go_simp) hown7 ⟨gA, o, none⟩ (a.length - q) (cv - q) ((cellsI a).drop (q * 2)) (by go_simp) (by rw [List.length_drop, cellsI_len]; omega) (HCD.out w17 B17) (fun u hu => cellsI_one a u (List.mem_of_mem_drop hu)) (by unfold maxLen; omega) (by omega) hs17' ?_))
       intro v6 w18 hown6 hgrow6 _
       have B18 : Below w10.heap.size w10 w18 := B17.trans ((Below.refl w10.heap.size w17).grown hgrow6 hs17' (fun z e => (hown7.lt z e).1))
       have O18 := HO20.out.below B18
       have hS8 : w18.cell? ⟨w3.heap.size, 2, none⟩ = some (.slice (some ⟨gA, 0, none⟩) a.length cv) := O18.cell 2
       have hrow6 : w18.ownsRow w10.heap.size 59 2 v6 (insI wd a t now).length (cellsI (insI wd a t now)) := by
        have e1 : (insI wd a t now).length = 0 + q + 1 + (a.length - q) := by rw [ins_len]; omega
        have e2 : cellsI (insI wd a t now) = [] ++ (cellsI a).take (q * 2) ++ [.string t, .int .i64 now] ++ (cellsI a).drop (q * 2) := by
         unfold insI
         rw [← HCUT.out]
         exact cellsI_ins a q t now (by omega)
        rw [e1, e2]
        exact hown6
       obtain ⟨a6, c6, rfl⟩ := row_any hrow6
       refine ⟨fun _ => hS8, ?_⟩
       refine tkL 16 (.pointer (some ⟨w3.heap.size, 2, none⟩)) rfl hS8 ?_
       have f8 := O18.fz 2
       have O19 : Blk (w18.setCell ⟨w3.heap.size, 2, none⟩ (.slice a6 (insI wd a t now).length c6)) w3.heap.size 26 #[.int .i64 wd, .int .i64 room, .slice a6 (insI wd a t now).length c6, .slice b4 ts.length d4] := O18.set 2 (.slice a6 (insI wd a t now).length c6)
       have G19 := grownBy_setCellAt w18 w3.heap.size 2 (.slice a6 (insI wd a t now).length c6)
       have R19 := hrow6.kept G19 (.inr fun e => by have := (hrow6.lt _ e).1; omega)
       have T19 := (HT20.out.trans (But.of_below B18) (fun _ _ h => h)).trans (But.of_grown (P := fun b => b = w3.heap.size) G19 rfl) (fun _ _ h => h)
       refine last_one 17 (by kernel_rfl) (op_skip (w' := w18.setCell ⟨w3.heap.size, 2, none⟩ (.slice a6 (insI wd a t now).length c6)) rfl rfl (by go_simp) ⟨fun h => absurd rfl h, last_done (by kernel_rfl) ?_ _⟩)
       generalize w18.setCell ⟨w3.heap.size, 2, none⟩ (.slice a6 (insI wd a t now).length c6) = w19 at O19 R19 T19 ⊢
       have Z19 := T19.blk HZ7.out (fun e => by have e' : w.heap.size + 1 = w3.heap.size := e; omega)
       have P19 := T19.row HP7.out (fun g e h' => row_no_blk HP7.out HO7.out (by decide) (by rw [e, h']))
       have BF : Below w.heap.size w w19 := HB7.out.trans (T19.below (B := w.heap.size) (by have := HB7.out.size; omega) (fun b e => by have e' : b = w3.heap.size := e; omega))
       have SO : StoreOwn w19 (w.heap.size + 2) (.slice a6 (insI wd a t now).length c6) (.slice b4 ts.length d4) (insI wd a t now) ts := ⟨ownsRow_base2 R19 (by omega), ownsRow_base2 P19 (by omega), fun g e1 e2 => rows_apart R19 P19 (by decide) e1 e2⟩
       have HF : Hid (PutR wd room its ts t now wd room (insI wd a t now) ts 0) := hid (.inr ⟨⟨HVAL.out, HPU.out⟩, 0, _, .put k a HNO.out HAW.out HFIT.out HBEF.out, rfl, .inr ⟨rfl, rfl, rfl, rfl, rfl⟩⟩)
       have q0 : w19.cell? ⟨w3.heap.size, 0, none⟩ = some (.int .i64 wd) := O19.cell 0
       have q1 : w19.cell? ⟨w3.heap.size, 1, none⟩ = some (.int .i64 room) := O19.cell 1
       have q2 : w19.cell? ⟨w3.heap.size, 2, none⟩ = some (.slice a6 (insI wd a t now).length c6) := O19.cell 2
       have q3 : w19.cell? ⟨w3.heap.size, 3, none⟩ = some (.slice b4 ts.length d4) := O19.cell 3
       have s9 := Z19.store4 (.int .i64 wd) (.int .i64 room) (.slice a6 (insI wd a t now).length c6) (.slice b4 ts.length d4)
       have s0 := s9.a0; have s1 := s9.a1; have s2 := s9.a2; have s3 := s9.a3
       have k0 := s9.f0; have k1 := s9.f1; have k2 := s9.f2; have k3 := s9.f3
       have ZZ := hid s9.z
       have BB := hid ((((BF.setCell (p := ⟨w.heap.size + 1, 0, none⟩) (by simp) (.int .i64 wd)).setCell (p := ⟨w.heap.size + 1, 1, none⟩) (by simp) (.int .i64 room)).setCell (p := ⟨w.heap.size + 1, 2, none⟩) (by simp) (.slice a6 (insI wd a t now).length c6)).setCell (p := ⟨w.heap.size + 1, 3, none⟩) (by simp) (.slice b4 ts.length d4))
       have GG := fun (x : World) (j : Nat) (y : Value) => grownBy_setCellAt x (w.heap.size + 1) j y
       have SO4 := hid ((((SO.kept (GG _ 0 (.int .i64 wd)) (by omega)).kept (GG _ 1 (.int .i64 room)) (by omega)).kept (GG _ 2 (.slice a6 (insI wd a t now).length c6)) (by omega)).kept (GG _ 3 (.slice b4 ts.length d4)) (by omega))
       clear s9 GG SO O18 B18 B17 hS7 hS8 hown5 hown6 hown7 hgrow6 hgrow7 hrow6 f8 O19 R19 T19 Z19 P19 BF G19 hit hBA hS0
       go_simp
       go_wp2
       exact bodyPost_ret (v := .tuple #[.agg #[.int .i64 wd, .int .i64 room, .slice a6 (insI wd a t now).length c6, .slice b4 ts.length d4], .int .i64 0]) (by simp [results, Tryz.results28, go_sem, ZZ.out.cell]) rfl ⟨wd, room, _, ts, 0, _, _, rfl, HF.out, SO4.out, BB.out⟩
    ·have hqe : q = a.length := by omega
     have HCUT : Hid (q = cutI wd (sumX wd t) a) := hid (cutI_is HAA.out (by omega) HLESS.out (fun h => absurd h (by omega)))
     have hS0 : wr.drew.cell? ⟨w3.heap.size, 2, none⟩ = some (.slice av a.length cv) := HOZ.out.cell 2
     have hqi : ¬ (((q : Nat) : Int) < ((a.length : Nat) : Int)) := by omega
     have HQE := hid hqe
     clear hqe hlt
     go_wp2_with fail
     refine wp_region_held (S := fun w' => w'.cell? ⟨w3.heap.size, 2, none⟩ = some (.slice av a.length cv)) (by kernel_rfl) ?_
     change wpAnyH _ _ _ _ _ _ _ _ (World.drew _)
     refine tkA 0 (.int .i64 (q : Nat)) rfl hS0 ?_
     refine tkA 1 (.pointer (some ⟨w3.heap.size, 2, none⟩)) rfl hS0 ?_
     refine tkA 2 (.slice av a.length cv) rfl hS0 ?_
     refine tkA 3 (.int .i64 (a.length : Nat)) rfl hS0 ?_
     refine tkA 4 (.bool false) rfl hS0 ?_
     refine tkA 5 (.bool false) rfl hS0 ?_
     refine tkO 6 rfl hS0 ?_
     refine tkO 7 rfl hS0 ?_
     refine tkO 8 rfl hS0 ?_
     refine tkO 9 rfl hS0 ?_
     refine tkO 10 rfl hS0 ?_
     refine tkO 11 rfl hS0 ?_
     refine tkO 12 rfl hS0 ?_
     refine tkO 13 rfl hS0 ?_
     refine tkO 14 rfl hS0 ?_
     refine tkO 15 rfl hS0 ?_
     refine tkO 16 rfl hS0 ?_
     refine tkA 17 (.bool false) rfl hS0 ?_
     refine wpAnyH_done (by kernel_rfl) ?_ _
     clear hS0
     go_simp
     go_wp2_with fail
     have HB20 : Hid (Below w8.heap.size w8 wr.drew) := hid (below_drewN HBZ.out 1)
     generalize wr.drew = w20 at HB20 ⊢
     rcases id HIZ.out with ⟨_, ⟨eA, h0⟩ | ⟨gA, capA, curA, eA, hgA, hgA2, _⟩⟩
     ·have ha0 : a = [] := List.length_eq_zero_iff.1 h0
      subst ha0
      obtain ⟨rfl, _, rfl⟩ : av = none ∧ ([] : Itms).length = 0 ∧ cv = 0 := Value.slice.inj eA
      have hq0 : q = 0 := HQE.out
      subst hq0
      clear eA h0 hqi
      have B20 : Below w8.heap.size w8 (w20) := HB20.out
      have HO20 := hid (HO8.out.below B20)
      have HT20 : Hid (But (fun b => b = w3.heap.size) w7 (w20)) := hid (HT8.out.trans (But.of_below B20) (fun _ _ h => h))
      have hs20 := B20.size
      have hS0 : (w20).drew.cell? ⟨w3.heap.size, 2, none⟩ = some (.slice none 0 0) := HO20.out.cell 2
      clear B20
      refine wp_region_last 17 (S := fun w' => w'.cell? ⟨w3.heap.size, 2, none⟩ = some (.slice none 0 0)) (by kernel_rfl) ?_
      change wpAnyC _ _ _ _ _ _ _ _ _ (World.drew _)
      refine tkL 1 (.pointer (some ⟨w3.heap.size, 2, none⟩)) rfl hS0 ?_
      refine tkL 2 (.slice none 0 0) rfl hS0 ?_
      refine tkL 3 (.int .i64 ((0 : Nat) : Int)) rfl hS0 ?_
      refine tkL 4 (.slice none 0 0) rfl hS0 ?_
      refine tkL 6 (.string t) rfl hS0 ?_
      refine tkL 7 (.int .i64 now) rfl hS0 ?_
      refine tkL 8 (.agg #[.string t, .int .i64 now]) rfl hS0 ?_
      refine tkL 11 (.pointer (some ⟨w3.heap.size, 2, none⟩)) rfl hS0 ?_
      refine tkL 12 (.slice none 0 0) rfl hS0 ?_
      refine tkL 13 (.int .i64 ((0 : Nat) : Int)) rfl hS0 ?_
      refine tkL 14 (.slice none 0 0) rfl hS0 ?_
      obtain ⟨i0, hi0, hz0, hz1, hz2⟩ := info_parts Tryz.infoItem
      have hbE : Below w20.heap.size w20 (w20.drew.alloc (.cells #[] 59)) := (below_drewN (Below.refl _ _) 1).alloc (Nat.le_refl _) (.cells #[] 59)
      have hbI : Below w20.heap.size w20 (w20.drew.alloc (.cells #[.string t, .int .i64 now] 59)) := (below_drewN (Below.refl _ _) 1).alloc (Nat.le_refl _) (.cells #[.string t, .int .i64 now] 59)
      have hbEI := hbE.alloc hbE.size (.cells #[.string t, .int .i64 now] 59)
      have hbIE := hbI.alloc hbI.size (.cells #[] 59)
      have hSE : (w20.drew.alloc (.cells #[] 59)).cell? ⟨w3.heap.size, 2, none⟩ = some (.slice none 0 0) := (HO20.out.below hbE).cell 2
      have hSI : (w20.drew.alloc (.cells #[.string t, .int .i64 now] 59)).cell? ⟨w3.heap.size, 2, none⟩ = some (.slice none 0 0) := (HO20.out.below hbI).cell 2
      have hSEI : ((w20.drew.alloc (.cells #[] 59)).alloc (.cells #[.string t, .int .i64 now] 59)).cell? ⟨w3.heap.size, 2, none⟩ = some (.slice none 0 0) := (HO20.out.below hbEI).cell 2
      have hSIE : ((w20.drew.alloc (.cells #[.string t, .int .i64 now] 59)).alloc (.cells #[] 59)).cell? ⟨w3.heap.size, 2, none⟩ = some (.slice none 0 0) := (HO20.out.below hbIE).cell 2
      have hOE : (w20.drew.alloc (.cells #[] 59)).ownsRow w20.heap.size 59 2 (.slice (some ⟨w20.heap.size, 0, none⟩) 0 0) 0 [] := World.ownsRow_made (base := w20.heap.size) (e := 59) (size := 2) w20.drew #[] 0 (Nat.le_refl _) (by simp [maxLen]) rfl
      have hOEI := hOE.alloc (.cells #[.string t, .int .i64 now] 59)
      have hOIE : ((w20.drew.alloc (.cells #[.string t, .int .i64 now] 59)).alloc (.cells #[] 59)).ownsRow w20.heap.size 59 2 (.slice (some ⟨w20.heap.size + 1, 0, none⟩) 0 0) 0 [] := by
       have h := World.ownsRow_made (base := w20.heap.size) (e := 59) (size := 2) (w20.drew.alloc (.cells #[.string t, .int .i64 now] 59)) #[] 0 (by rw [World.size_alloc]; exact Nat.le_succ _) (by simp [maxLen]) rfl
       rw [World.size_alloc] at h
       exact h
      have HIEI : Hid (Blk ((w20.drew.alloc (.cells #[] 59)).alloc (.cells #[.string t, .int .i64 now] 59)) (w20.heap.size + 1) 59 #[.string t, .int .i64 now]) := hid (by
       have h := Blk.new (w20.drew.alloc (.cells #[] 59)) 59 #[.string t, .int .i64 now]
       rw [World.size_alloc] at h
       exact h)
      have HIIE : Hid (Blk ((w20.drew.alloc (.cells #[.string t, .int .i64 now] 59)).alloc (.cells #[] 59)) w20.heap.size 59 #[.string t, .int .i64 now]) := hid ((Blk.new w20.drew 59 #[.string t, .int .i64 now]).alloc (.cells #[] 59))
      refine last_two 0 9 (by kernel_rfl) (op_value (v := .slice (some ⟨w20.heap.size, 0, none⟩) 0 0) (w' := w20.drew.alloc (.cells #[] 59)) rfl rfl (by go_simp) ⟨fun _ => hSE, ?_⟩) (op_value (v := .slice (some ⟨w20.heap.size, 0, none⟩) 1 1) (w' := w20.drew.alloc (.cells #[.string t, .int .i64 now] 59)) rfl rfl (by go_simp) ⟨fun _ => hSI, ?_⟩)
      ·refine last_two 5 9 (by kernel_rfl) (op_wp rfl rfl (wp_append_nilI (.tmp 103) (.tmp 107) rfl w20.heap.size (.slice (some ⟨w20.heap.size, 0, none⟩) 0 0) 0 [] (by go_simp) hOE (by go_simp) ⟨fun _ => hSE, ?_⟩)) (op_value (v := .slice (some ⟨w20.heap.size + 1, 0, none⟩) 1 1) (w' := (w20.drew.alloc (.cells #[] 59)).alloc (.cells #[.string t, .int .i64 now] 59)) rfl rfl (by go_simp) ⟨fun _ => hSEI, ?_⟩)
       ·refine last_one 9 (by kernel_rfl) (op_value (v := .slice (some ⟨w20.heap.size + 1, 0, none⟩) 1 1) (w' := (w20.drew.alloc (.cells #[] 59)).alloc (.cells #[.string t, .int .i64 now] 59)) rfl rfl (by go_simp) ⟨fun _ => hSEI, ?_⟩)
        have hit : ∀ j u, [Value.string t, Value.int .i64 now][j]? = some u → ((w20.drew.alloc (.cells #[] 59)).alloc (.cells #[.string t, .int .i64 now] 59)).cell? ((⟨w20.heap.size + 1, 0, none⟩ : Addr).add j) = some u := fun j u hj => by rw [addr_add', Nat.zero_add, HIEI.out.cell j]; simpa using hj
        have hBA := hbEI
        have hown5 := hOEI
        have hsA := hBA.size
        refine last_one 10 (by kernel_rfl) (op_wp rfl rfl (wp_append_own _ (.tmp 108) (.tmp 112) 23 rfl w20.heap.size 59 i0 (.agg #[.string ⟨#[]⟩, .int .i64 0]) 2 24 Tryz.underlying23 hi0 hz0 hz1 hz2 rfl (by decide) (.slice (some ⟨w20.heap.size, 0, none⟩) 0 0) 0 [] (by go_simp) hown5 ⟨w20.heap.size + 1, 0, none⟩ 1 1 [.string t, .int .i64 now] (by go_simp) rfl hit (by simp [Value.oneCell']) (by unfold maxLen; omega) (by omega) hsA ?_))
        intro v6 w18 hown6 hgrow6 _
        have B18 : Below w20.heap.size w20 w18 := hBA.trans ((Below.refl w20.heap.size ((w20.drew.alloc (.cells #[] 59)).alloc (.cells #[.string t, .int .i64 now] 59))).grown hgrow6 hsA (fun z e => (hown5.lt z e).1))
        have O18 := HO20.out.below B18
        have hS8 : w18.cell? ⟨w3.heap.size, 2, none⟩ = some (.slice none 0 0) := O18.cell 2
        have hrow6 : w18.ownsRow w20.heap.size 59 2 v6 (insI wd [] t now).length (cellsI (insI wd [] t now)) := by
         have e0 : insI wd [] t now = [(t, now)] := by simp [insI]
         rw [e0]
         exact hown6
        obtain ⟨a6, c6, rfl⟩ := row_any hrow6
        refine ⟨fun _ => hS8, ?_⟩
        refine last_one 15 (by kernel_rfl) (op_wp rfl rfl (wp_append_nilI (.tmp 113) (.tmp 117) rfl w20.heap.size (.slice a6 (insI wd [] t now).length c6) _ _ (by go_simp) hrow6 (by go_simp) ⟨fun _ => hS8, ?_⟩))
        refine tkL 16 (.pointer (some ⟨w3.heap.size, 2, none⟩)) rfl hS8 ?_
        have f8 := O18.fz 2
        have O19 : Blk (w18.setCell ⟨w3.heap.size, 2, none⟩ (.slice a6 (insI wd [] t now).length c6)) w3.heap.size 26 #[.int .i64 wd, .int .i64 room, .slice a6 (insI wd [] t now).length c6, .slice b4 ts.length d4] := O18.set 2 (.slice a6 (insI wd [] t now).length c6)
        have G19 := grownBy_setCellAt w18 w3.heap.size 2 (.slice a6 (insI wd [] t now).length c6)
        have R19 := hrow6.kept G19 (.inr fun e => by have := (hrow6.lt _ e).1; omega)
        have T19 := (HT20.out.trans (But.of_below B18) (fun _ _ h => h)).trans (But.of_grown (P := fun b => b = w3.heap.size) G19 rfl) (fun _ _ h => h)
        refine last_one 17 (by kernel_rfl) (op_skip (w' := w18.setCell ⟨w3.heap.size, 2, none⟩ (.slice a6 (insI wd [] t now).length c6)) rfl rfl (by go_simp) ⟨fun h => absurd rfl h, last_done (by kernel_rfl) ?_ _⟩)
        generalize w18.setCell ⟨w3.heap.size, 2, none⟩ (.slice a6 (insI wd [] t now).length c6) = w19 at O19 R19 T19 ⊢
        have Z19 := T19.blk HZ7.out (fun e => by have e' : w.heap.size + 1 = w3.heap.size := e; omega)
        have P19 := T19.row HP7.out (fun g e h' => row_no_blk HP7.out HO7.out (by decide) (by rw [e, h']))
        have BF : Below w.heap.size w w19 := HB7.out.trans (T19.below (B := w.heap.size) (by have := HB7.out.size; omega) (fun b e => by have e' : b = w3.heap.size := e; omega))
        have SO : StoreOwn w19 (w.heap.size + 2) (.slice a6 (insI wd [] t now).length c6) (.slice b4 ts.length d4) (insI wd [] t now) ts := ⟨ownsRow_base2 R19 (by omega), ownsRow_base2 P19 (by omega), fun g e1 e2 => rows_apart R19 P19 (by decide) e1 e2⟩
        have HF : Hid (PutR wd room its ts t now wd room (insI wd [] t now) ts 0) := hid (.inr ⟨⟨HVAL.out, HPU.out⟩, 0, _, .put k [] HNO.out HAW.out HFIT.out HBEF.out, rfl, .inr ⟨rfl, rfl, rfl, rfl, rfl⟩⟩)
        have q0 : w19.cell? ⟨w3.heap.size, 0, none⟩ = some (.int .i64 wd) := O19.cell 0
        have q1 : w19.cell? ⟨w3.heap.size, 1, none⟩ = some (.int .i64 room) := O19.cell 1
        have q2 : w19.cell? ⟨w3.heap.size, 2, none⟩ = some (.slice a6 (insI wd [] t now).length c6) := O19.cell 2
        have q3 : w19.cell? ⟨w3.heap.size, 3, none⟩ = some (.slice b4 ts.length d4) := O19.cell 3
        have s9 := Z19.store4 (.int .i64 wd) (.int .i64 room) (.slice a6 (insI wd [] t now).length c6) (.slice b4 ts.length d4)
        have s0 := s9.a0; have s1 := s9.a1; have s2 := s9.a2; have s3 := s9.a3
        have k0 := s9.f0; have k1 := s9.f1; have k2 := s9.f2; have k3 := s9.f3
        have ZZ := hid s9.z
        have BB := hid ((((BF.setCell (p := ⟨w.heap.size + 1, 0, none⟩) (by simp) (.int .i64 wd)).setCell (p := ⟨w.heap.size + 1, 1, none⟩) (by simp) (.int .i64 room)).setCell (p := ⟨w.heap.size + 1, 2, none⟩) (by simp) (.slice a6 (insI wd [] t now).length c6)).setCell (p := ⟨w.heap.size + 1, 3, none⟩) (by simp) (.slice b4 ts.length d4))
        have GG := fun (x : World) (j : Nat) (y : Value) => grownBy_setCellAt x (w.heap.size + 1) j y
        have SO4 := hid ((((SO.kept (GG _ 0 (.int .i64 wd)) (by omega)).kept (GG _ 1 (.int .i64 room)) (by omega)).kept (GG _ 2 (.slice a6 (insI wd [] t now).length c6)) (by omega)).kept (GG _ 3 (.slice b4 ts.length d4)) (by omega))
        clear s9 GG SO O18 B18 hS8 hown5 hown6 hgrow6 hrow6 f8 O19 R19 T19 Z19 P19 BF G19 hit hBA hS0
        go_simp
        go_wp2
        exact bodyPost_ret (v := .tuple #[.agg #[.int .i64 wd, .int .i64 room, .slice a6 (insI wd [] t now).length c6, .slice b4 ts.length d4], .int .i64 0]) (by simp [results, Tryz.results28, go_sem, ZZ.out.cell]) rfl ⟨wd, room, _, ts, 0, _, _, rfl, HF.out, SO4.out, BB.out⟩
       ·refine last_one 5 (by kernel_rfl) (op_wp rfl rfl (wp_append_nilI (.tmp 103) (.tmp 107) rfl w20.heap.size (.slice (some ⟨w20.heap.size, 0, none⟩) 0 0) 0 [] (by go_simp) hOEI (by go_simp) ⟨fun _ => hSEI, ?_⟩))
        have hit : ∀ j u, [Value.string t, Value.int .i64 now][j]? = some u → ((w20.drew.alloc (.cells #[] 59)).alloc (.cells #[.string t, .int .i64 now] 59)).cell? ((⟨w20.heap.size + 1, 0, none⟩ : Addr).add j) = some u := fun j u hj => by rw [addr_add', Nat.zero_add, HIEI.out.cell j]; simpa using hj
        have hBA := hbEI
        have hown5 := hOEI
        have hsA := hBA.size
        refine last_one 10 (by kernel_rfl) (op_wp rfl rfl (wp_append_own _ (.tmp 108) (.tmp 112) 23 rfl w20.heap.size 59 i0 (.agg #[.string ⟨#[]⟩, .int .i64 0]) 2 24 Tryz.underlying23 hi0 hz0 hz1 hz2 rfl (by decide) (.slice (some ⟨w20.heap.size, 0, none⟩) 0 0) 0 [] (by go_simp) hown5 ⟨w20.heap.size + 1, 0, none⟩ 1 1 [.string t, .int .i64 now] (by go_simp) rfl hit (by simp [Value.oneCell']) (by unfold maxLen; omega) (by omega) hsA ?_))
        intro v6 w18 hown6 hgrow6 _
        have B18 : Below w20.heap.size w20 w18 := hBA.trans ((Below.refl w20.heap.size ((w20.drew.alloc (.cells #[] 59)).alloc (.cells #[.string t, .int .i64 now] 59))).grown hgrow6 hsA (fun z e => (hown5.lt z e).1))
        have O18 := HO20.out.below B18
        have hS8 : w18.cell? ⟨w3.heap.size, 2, none⟩ = some (.slice none 0 0) := O18.cell 2
        have hrow6 : w18.ownsRow w20.heap.size 59 2 v6 (insI wd [] t now).length (cellsI (insI wd [] t now)) := by
         have e0 : insI wd [] t now = [(t, now)] := by simp [insI]
         rw [e0]
         exact hown6
        obtain ⟨a6, c6, rfl⟩ := row_any hrow6
        refine ⟨fun _ => hS8, ?_⟩
        refine last_one 15 (by kernel_rfl) (op_wp rfl rfl (wp_append_nilI (.tmp 113) (.tmp 117) rfl w20.heap.size (.slice a6 (insI wd [] t now).length c6) _ _ (by go_simp) hrow6 (by go_simp) ⟨fun _ => hS8, ?_⟩))
        refine tkL 16 (.pointer (some ⟨w3.heap.size, 2, none⟩)) rfl hS8 ?_
        have f8 := O18.fz 2
        have O19 : Blk (w18.setCell ⟨w3.heap.size, 2, none⟩ (.slice a6 (insI wd [] t now).length c6)) w3.heap.size 26 #[.int .i64 wd, .int .i64 room, .slice a6 (insI wd [] t now).length c6, .slice b4 ts.length d4] := O18.set 2 (.slice a6 (insI wd [] t now).length c6)
        have G19 := grownBy_setCellAt w18 w3.heap.size 2 (.slice a6 (insI wd [] t now).length c6)
        have R19 := hrow6.kept G19 (.inr fun e => by have := (hrow6.lt _ e).1; omega)
        have T19 := (HT20.out.trans (But.of_below B18) (fun _ _ h => h)).trans (But.of_grown (P := fun b => b = w3.heap.size) G19 rfl) (fun _ _ h => h)
        refine last_one 17 (by kernel_rfl) (op_skip (w' := w18.setCell ⟨w3.heap.size, 2, none⟩ (.slice a6 (insI wd [] t now).length c6)) rfl rfl (by go_simp) ⟨fun h => absurd rfl h, last_done (by kernel_rfl) ?_ _⟩)
        generalize w18.setCell ⟨w3.heap.size, 2, none⟩ (.slice a6 (insI wd [] t now).length c6) = w19 at O19 R19 T19 ⊢
        have Z19 := T19.blk HZ7.out (fun e => by have e' : w.heap.size + 1 = w3.heap.size := e; omega)
        have P19 := T19.row HP7.out (fun g e h' => row_no_blk HP7.out HO7.out (by decide) (by rw [e, h']))
        have BF : Below w.heap.size w w19 := HB7.out.trans (T19.below (B := w.heap.size) (by have := HB7.out.size; omega) (fun b e => by have e' : b = w3.heap.size := e; omega))
        have SO : StoreOwn w19 (w.heap.size + 2) (.slice a6 (insI wd [] t now).length c6) (.slice b4 ts.length d4) (insI wd [] t now) ts := ⟨ownsRow_base2 R19 (by omega), ownsRow_base2 P19 (by omega), fun g e1 e2 => rows_apart R19 P19 (by decide) e1 e2⟩
        have HF : Hid (PutR wd room its ts t now wd room (insI wd [] t now) ts 0) := hid (.inr ⟨⟨HVAL.out, HPU.out⟩, 0, _, .put k [] HNO.out HAW.out HFIT.out HBEF.out, rfl, .inr ⟨rfl, rfl, rfl, rfl, rfl⟩⟩)
        have q0 : w19.cell? ⟨w3.heap.size, 0, none⟩ = some (.int .i64 wd) := O19.cell 0
        have q1 : w19.cell? ⟨w3.heap.size, 1, none⟩ = some (.int .i64 room) := O19.cell 1
        have q2 : w19.cell? ⟨w3.heap.size, 2, none⟩ = some (.slice a6 (insI wd [] t now).length c6) := O19.cell 2
        have q3 : w19.cell? ⟨w3.heap.size, 3, none⟩ = some (.slice b4 ts.length d4) := O19.cell 3
        have s9 := Z19.store4 (.int .i64 wd) (.int .i64 room) (.slice a6 (insI wd [] t now).length c6) (.slice b4 ts.length d4)
        have s0 := s9.a0; have s1 := s9.a1; have s2 := s9.a2; have s3 := s9.a3
        have k0 := s9.f0; have k1 := s9.f1; have k2 := s9.f2; have k3 := s9.f3
        have ZZ := hid s9.z
        have BB := hid ((((BF.setCell (p := ⟨w.heap.size + 1, 0, none⟩) (by simp) (.int .i64 wd)).setCell (p := ⟨w.heap.size + 1, 1, none⟩) (by simp) (.int .i64 room)).setCell (p := ⟨w.heap.size + 1, 2, none⟩) (by simp) (.slice a6 (insI wd [] t now).length c6)).setCell (p := ⟨w.heap.size + 1, 3, none⟩) (by simp) (.slice b4 ts.length d4))
        have GG := fun (x : World) (j : Nat) (y : Value) => grownBy_setCellAt x (w.heap.size + 1) j y
        have SO4 := hid ((((SO.kept (GG _ 0 (.int .i64 wd)) (by omega)).kept (GG _ 1 (.int .i64 room)) (by omega)).kept (GG _ 2 (.slice a6 (insI wd [] t now).length c6)) (by omega)).kept (GG _ 3 (.slice b4 ts.length d4)) (by omega))
        clear s9 GG SO O18 B18 hS8 hown5 hown6 hgrow6 hrow6 f8 O19 R19 T19 Z19 P19 BF G19 hit hBA hS0
        go_simp
        go_wp2
        exact bodyPost_ret (v := .tuple #[.agg #[.int .i64 wd, .int .i64 room, .slice a6 (insI wd [] t now).length c6, .slice b4 ts.length d4], .int .i64 0]) (by simp [results, Tryz.results28, go_sem, ZZ.out.cell]) rfl ⟨wd, room, _, ts, 0, _, _, rfl, HF.out, SO4.out, BB.out⟩
      ·refine last_one 0 (by kernel_rfl) (op_value (v := .slice (some ⟨w20.heap.size + 1, 0, none⟩) 0 0) (w' := (w20.drew.alloc (.cells #[.string t, .int .i64 now] 59)).alloc (.cells #[] 59)) rfl rfl (by go_simp) ⟨fun _ => hSIE, ?_⟩)
       refine last_one 5 (by kernel_rfl) (op_wp rfl rfl (wp_append_nilI (.tmp 103) (.tmp 107) rfl w20.heap.size (.slice (some ⟨w20.heap.size + 1, 0, none⟩) 0 0) 0 [] (by go_simp) hOIE (by go_simp) ⟨fun _ => hSIE, ?_⟩))
       have hit : ∀ j u, [Value.string t, Value.int .i64 now][j]? = some u → ((w20.drew.alloc (.cells #[.string t, .int .i64 now] 59)).alloc (.cells #[] 59)).cell? ((⟨w20.heap.size, 0, none⟩ : Addr).add j) = some u := fun j u hj => by rw [addr_add', Nat.zero_add, HIIE.out.cell j]; simpa using hj
       have hBA := hbIE
       have hown5 := hOIE
       have hsA := hBA.size
       refine last_one 10 (by kernel_rfl) (op_wp rfl rfl (wp_append_own _ (.tmp 108) (.tmp 112) 23 rfl w20.heap.size 59 i0 (.agg #[.string ⟨#[]⟩, .int .i64 0]) 2 24 Tryz.underlying23 hi0 hz0 hz1 hz2 rfl (by decide) (.slice (some ⟨w20.heap.size + 1, 0, none⟩) 0 0) 0 [] (by go_simp) hown5 ⟨w20.heap.size, 0, none⟩ 1 1 [.string t, .int .i64 now] (by go_simp) rfl hit (by simp [Value.oneCell']) (by unfold maxLen; omega) (by omega) hsA ?_))
       intro v6 w18 hown6 hgrow6 _
       have B18 : Below w20.heap.size w20 w18 := hBA.trans ((Below.refl w20.heap.size ((w20.drew.alloc (.cells #[.string t, .int .i64 now] 59)).alloc (.cells #[] 59))).grown hgrow6 hsA (fun z e => (hown5.lt z e).1))
       have O18 := HO20.out.below B18
       have hS8 : w18.cell? ⟨w3.heap.size, 2, none⟩ = some (.slice none 0 0) := O18.cell 2
       have hrow6 : w18.ownsRow w20.heap.size 59 2 v6 (insI wd [] t now).length (cellsI (insI wd [] t now)) := by
        have e0 : insI wd [] t now = [(t, now)] := by simp [insI]
        rw [e0]
        exact hown6
       obtain ⟨a6, c6, rfl⟩ := row_any hrow6
       refine ⟨fun _ => hS8, ?_⟩
       refine last_one 15 (by kernel_rfl) (op_wp rfl rfl (wp_append_nilI (.tmp 113) (.tmp 117) rfl w20.heap.size (.slice a6 (insI wd [] t now).length c6) _ _ (by go_simp) hrow6 (by go_simp) ⟨fun _ => hS8, ?_⟩))
       refine tkL 16 (.pointer (some ⟨w3.heap.size, 2, none⟩)) rfl hS8 ?_
       have f8 := O18.fz 2
       have O19 : Blk (w18.setCell ⟨w3.heap.size, 2, none⟩ (.slice a6 (insI wd [] t now).length c6)) w3.heap.size 26 #[.int .i64 wd, .int .i64 room, .slice a6 (insI wd [] t now).length c6, .slice b4 ts.length d4] := O18.set 2 (.slice a6 (insI wd [] t now).length c6)
       have G19 := grownBy_setCellAt w18 w3.heap.size 2 (.slice a6 (insI wd [] t now).length c6)
       have R19 := hrow6.kept G19 (.inr fun e => by have := (hrow6.lt _ e).1; omega)
       have T19 := (HT20.out.trans (But.of_below B18) (fun _ _ h => h)).trans (But.of_grown (P := fun b => b = w3.heap.size) G19 rfl) (fun _ _ h => h)
       refine last_one 17 (by kernel_rfl) (op_skip (w' := w18.setCell ⟨w3.heap.size, 2, none⟩ (.slice a6 (insI wd [] t now).length c6)) rfl rfl (by go_simp) ⟨fun h => absurd rfl h, last_done (by kernel_rfl) ?_ _⟩)
       generalize w18.setCell ⟨w3.heap.size, 2, none⟩ (.slice a6 (insI wd [] t now).length c6) = w19 at O19 R19 T19 ⊢
       have Z19 := T19.blk HZ7.out (fun e => by have e' : w.heap.size + 1 = w3.heap.size := e; omega)
       have P19 := T19.row HP7.out (fun g e h' => row_no_blk HP7.out HO7.out (by decide) (by rw [e, h']))
       have BF : Below w.heap.size w w19 := HB7.out.trans (T19.below (B := w.heap.size) (by have := HB7.out.size; omega) (fun b e => by have e' : b = w3.heap.size := e; omega))
       have SO : StoreOwn w19 (w.heap.size + 2) (.slice a6 (insI wd [] t now).length c6) (.slice b4 ts.length d4) (insI wd [] t now) ts := ⟨ownsRow_base2 R19 (by omega), ownsRow_base2 P19 (by omega), fun g e1 e2 => rows_apart R19 P19 (by decide) e1 e2⟩
       have HF : Hid (PutR wd room its ts t now wd room (insI wd [] t now) ts 0) := hid (.inr ⟨⟨HVAL.out, HPU.out⟩, 0, _, .put k [] HNO.out HAW.out HFIT.out HBEF.out, rfl, .inr ⟨rfl, rfl, rfl, rfl, rfl⟩⟩)
       have q0 : w19.cell? ⟨w3.heap.size, 0, none⟩ = some (.int .i64 wd) := O19.cell 0
       have q1 : w19.cell? ⟨w3.heap.size, 1, none⟩ = some (.int .i64 room) := O19.cell 1
       have q2 : w19.cell? ⟨w3.heap.size, 2, none⟩ = some (.slice a6 (insI wd [] t now).length c6) := O19.cell 2
       have q3 : w19.cell? ⟨w3.heap.size, 3, none⟩ = some (.slice b4 ts.length d4) := O19.cell 3
       have s9 := Z19.store4 (.int .i64 wd) (.int .i64 room) (.slice a6 (insI wd [] t now).length c6) (.slice b4 ts.length d4)
       have s0 := s9.a0; have s1 := s9.a1; have s2 := s9.a2; have s3 := s9.a3
       have k0 := s9.f0; have k1 := s9.f1; have k2 := s9.f2; have k3 := s9.f3
       have ZZ := hid s9.z
       have BB := hid ((((BF.setCell (p := ⟨w.heap.size + 1, 0, none⟩) (by simp) (.int .i64 wd)).setCell (p := ⟨w.heap.size + 1, 1, none⟩) (by simp) (.int .i64 room)).setCell (p := ⟨w.heap.size + 1, 2, none⟩) (by simp) (.slice a6 (insI wd [] t now).length c6)).setCell (p := ⟨w.heap.size + 1, 3, none⟩) (by simp) (.slice b4 ts.length d4))
       have GG := fun (x : World) (j : Nat) (y : Value) => grownBy_setCellAt x (w.heap.size + 1) j y
       have SO4 := hid ((((SO.kept (GG _ 0 (.int .i64 wd)) (by omega)).kept (GG _ 1 (.int .i64 room)) (by omega)).kept (GG _ 2 (.slice a6 (insI wd [] t now).length c6)) (by omega)).kept (GG _ 3 (.slice b4 ts.length d4)) (by omega))
       clear s9 GG SO O18 B18 hS8 hown5 hown6 hgrow6 hrow6 f8 O19 R19 T19 Z19 P19 BF G19 hit hBA hS0
       go_simp
       go_wp2
       exact bodyPost_ret (v := .tuple #[.agg #[.int .i64 wd, .int .i64 room, .slice a6 (insI wd [] t now).length c6, .slice b4 ts.length d4], .int .i64 0]) (by simp [results, Tryz.results28, go_sem, ZZ.out.cell]) rfl ⟨wd, room, _, ts, 0, _, _, rfl, HF.out, SO4.out, BB.out⟩
     ·obtain ⟨rfl, _, rfl⟩ : av = some ⟨gA, 0, none⟩ ∧ a.length = a.length ∧ cv = capA := Value.slice.inj eA
      have hgAl : gA < wr.heap.size := (Array.getElem?_eq_some_iff.1 hgA2).1
      have hqg : a.length ≤ q := by have := HQE.out; omega
      clear eA hgA2 hqi
      have B20 : Below w8.heap.size w8 w20 := HB20.out
      have HO20 := hid (HO8.out.below B20)
      have HI20 := hid (HI8.out.kept (grown_of_below B20) (.inr (fun e => by cases e)))
      have HT20 : Hid (But (fun b => b = w3.heap.size) w7 w20) := hid (HT8.out.trans (But.of_below B20) (fun _ _ h => h))
      have hs20 := B20.size
      have hcap : a.length ≤ cv := by
       obtain ⟨_, ⟨e, _⟩ | ⟨g', cap', cur, e1, _, _, e4, _⟩⟩ := HI20.out
       ·cases e
       ·have := (Value.slice.inj e1).2.2
        omega
      obtain ⟨o, ho, hoc⟩ : ∃ o, (if cv = q then some (⟨gA, 0, none⟩ : Addr) else some ⟨gA, q * 2, none⟩) = some ⟨gA, o, none⟩ ∧ (cv = q ∨ o = q * 2) := by
       by_cases e : cv = q
       ·exact ⟨0, by rw [if_pos e], .inl e⟩
       ·exact ⟨q * 2, by rw [if_neg e], .inr rfl⟩
      have HOC := hid hoc
      have hqc : q ≤ cv := by omega
      have hS0 : w20.drew.cell? ⟨w3.heap.size, 2, none⟩ = some (.slice (some ⟨gA, 0, none⟩) a.length cv) := HO20.out.cell 2
      clear hoc B20
      refine wp_region_last 17 (S := fun w' => w'.cell? ⟨w3.heap.size, 2, none⟩ = some (.slice (some ⟨gA, 0, none⟩) a.length cv)) (by kernel_rfl) ?_
      change wpAnyC _ _ _ _ _ _ _ _ _ (World.drew _)
      refine tkL 1 (.pointer (some ⟨w3.heap.size, 2, none⟩)) rfl hS0 ?_
      refine tkL 2 (.slice (some ⟨gA, 0, none⟩) a.length cv) rfl hS0 ?_
      refine tkL 3 (.int .i64 (q : Nat)) rfl hS0 ?_
      refine tkL 4 (.slice (some ⟨gA, 0, none⟩) q cv) rfl hS0 ?_
      refine tkL 6 (.string t) rfl hS0 ?_
      refine tkL 7 (.int .i64 now) rfl hS0 ?_
      refine tkL 8 (.agg #[.string t, .int .i64 now]) rfl hS0 ?_
      refine tkL 11 (.pointer (some ⟨w3.heap.size, 2, none⟩)) rfl hS0 ?_
      refine tkL 12 (.slice (some ⟨gA, 0, none⟩) a.length cv) rfl hS0 ?_
      refine tkL 13 (.int .i64 (q : Nat)) rfl hS0 ?_
      refine lastH_take (i := 14) (v := .slice (some ⟨gA, o, none⟩) (a.length - q) (cv - q)) 20 rfl (by kernel_rfl) (by kernel_rfl) (by kernel_rfl) (by kernel_rfl) (fun _ _ _ h => h) (.inl ⟨rfl, fun w' hS => by first | (go_simp; done) | (go_simp; intro h; exfalso; have h2 := h (by omega); omega) | (go_simp; intro h; exfalso; omega)⟩) hS0 ?_
      obtain ⟨i0, hi0, hz0, hz1, hz2⟩ := info_parts Tryz.infoItem
      have HCT := hid fun (X : World) (h : Below w20.heap.size w20 X) => (show ∀ j u, ((cellsI a).take (q * 2))[j]? = some u → X.cell? ((⟨gA, 0, none⟩ : Addr).add j) = some u from fun j u hj => by
       have hj' : (cellsI a)[j]? = some u := by
        rw [List.getElem?_take] at hj
        split at hj
        ·exact hj
        ·cases hj
       exact World.ownsRow.cells (HI20.out.kept (grown_of_below h) (.inr (fun e => by cases e))) (g := gA) rfl j u hj')
      have HCD := hid fun (X : World) (h : Below w20.heap.size w20 X) => (show ∀ j u, ((cellsI a).drop (q * 2))[j]? = some u → X.cell? ((⟨gA, o, none⟩ : Addr).add j) = some u from fun j u hj => by
       have hl : j < a.length * 2 - q * 2 := by
        have := (List.getElem?_eq_some_iff.1 hj).1
        rw [List.length_drop, cellsI_len] at this
        exact this
       have e : o = q * 2 := HOC.out.elim (fun h => by omega) id
       rw [List.getElem?_drop] at hj
       have h1 := World.ownsRow.cells (HI20.out.kept (grown_of_below h) (.inr (fun e => by cases e))) (g := gA) rfl _ u hj
       have e2 : (⟨gA, o, none⟩ : Addr).add j = (⟨gA, 0, none⟩ : Addr).add (q * 2 + j) := by rw [addr_add', addr_add', e, Nat.zero_add]
       rw [e2]
       exact h1)
      have hbE : Below w20.heap.size w20 (w20.drew.alloc (.cells #[] 59)) := (below_drewN (Below.refl _ _) 1).alloc (Nat.le_refl _) (.cells #[] 59)
      have hbI : Below w20.heap.size w20 (w20.drew.alloc (.cells #[.string t, .int .i64 now] 59)) := (below_drewN (Below.refl _ _) 1).alloc (Nat.le_refl _) (.cells #[.string t, .int .i64 now] 59)
      have hbEI := hbE.alloc hbE.size (.cells #[.string t, .int .i64 now] 59)
      have hbIE := hbI.alloc hbI.size (.cells #[] 59)
      have hSE : (w20.drew.alloc (.cells #[] 59)).cell? ⟨w3.heap.size, 2, none⟩ = some (.slice (some ⟨gA, 0, none⟩) a.length cv) := (HO20.out.below hbE).cell 2
      have hSI : (w20.drew.alloc (.cells #[.string t, .int .i64 now] 59)).cell? ⟨w3.heap.size, 2, none⟩ = some (.slice (some ⟨gA, 0, none⟩) a.length cv) := (HO20.out.below hbI).cell 2
      have hSEI : ((w20.drew.alloc (.cells #[] 59)).alloc (.cells #[.string t, .int .i64 now] 59)).cell? ⟨w3.heap.size, 2, none⟩ = some (.slice (some ⟨gA, 0, none⟩) a.length cv) := (HO20.out.below hbEI).cell 2
      have hSIE : ((w20.drew.alloc (.cells #[.string t, .int .i64 now] 59)).alloc (.cells #[] 59)).cell? ⟨w3.heap.size, 2, none⟩ = some (.slice (some ⟨gA, 0, none⟩) a.length cv) := (HO20.out.below hbIE).cell 2
      have hOE : (w20.drew.alloc (.cells #[] 59)).ownsRow w20.heap.size 59 2 (.slice (some ⟨w20.heap.size, 0, none⟩) 0 0) 0 [] := World.ownsRow_made (base := w20.heap.size) (e := 59) (size := 2) w20.drew #[] 0 (Nat.le_refl _) (by simp [maxLen]) rfl
      have hOEI := hOE.alloc (.cells #[.string t, .int .i64 now] 59)
      have hOIE : ((w20.drew.alloc (.cells #[.string t, .int .i64 now] 59)).alloc (.cells #[] 59)).ownsRow w20.heap.size 59 2 (.slice (some ⟨w20.heap.size + 1, 0, none⟩) 0 0) 0 [] := by
       have h := World.ownsRow_made (base := w20.heap.size) (e := 59) (size := 2) (w20.drew.alloc (.cells #[.string t, .int .i64 now] 59)) #[] 0 (by rw [World.size_alloc]; exact Nat.le_succ _) (by simp [maxLen]) rfl
       rw [World.size_alloc] at h
       exact h
      have HIEI : Hid (Blk ((w20.drew.alloc (.cells #[] 59)).alloc (.cells #[.string t, .int .i64 now] 59)) (w20.heap.size + 1) 59 #[.string t, .int .i64 now]) := hid (by
       have h := Blk.new (w20.drew.alloc (.cells #[] 59)) 59 #[.string t, .int .i64 now]
       rw [World.size_alloc] at h
       exact h)
      have HIIE : Hid (Blk ((w20.drew.alloc (.cells #[.string t, .int .i64 now] 59)).alloc (.cells #[] 59)) w20.heap.size 59 #[.string t, .int .i64 now]) := hid ((Blk.new w20.drew 59 #[.string t, .int .i64 now]).alloc (.cells #[] 59))
      have hlenT : ((cellsI a).take (q * 2)).length = q * 2 := by rw [List.length_take, cellsI_len]; omega
      refine last_two 0 9 (by kernel_rfl) (op_value (v := .slice (some ⟨w20.heap.size, 0, none⟩) 0 0) (w' := w20.drew.alloc (.cells #[] 59)) rfl rfl (by go_simp) ⟨fun _ => hSE, ?_⟩) (op_value (v := .slice (some ⟨w20.heap.size, 0, none⟩) 1 1) (w' := w20.drew.alloc (.cells #[.string t, .int .i64 now] 59)) rfl rfl (by go_simp) ⟨fun _ => hSI, ?_⟩)
      ·refine last_two 5 9 (by kernel_rfl) (op_wp rfl rfl (wp_append_own _ (.tmp 103) (.tmp 107) 23 rfl w20.heap.size 59 i0 (.agg #[.string ⟨#[]⟩, .int .i64 0]) 2 24 Tryz.underlying23 hi0 hz0 hz1 hz2 rfl (by decide) (.slice (some ⟨w20.heap.size, 0, none⟩) 0 0) 0 [] (by go_simp) hOE ⟨gA, 0, none⟩ q cv ((cellsI a).take (q * 2)) (by go_simp) hlenT (HCT.out _ hbE) (fun u hu => cellsI_one a u (List.mem_of_mem_take hu)) (by unfold maxLen; omega) (by omega) (by rw [World.size_alloc]; exact Nat.le_succ _) ?_)) (op_value (v := .slice (some ⟨w20.heap.size + 1, 0, none⟩) 1 1) (w' := (w20.drew.alloc (.cells #[] 59)).alloc (.cells #[.string t, .int .i64 now] 59)) rfl rfl (by go_simp) ⟨fun _ => hSEI, ?_⟩)
       ·intro v5 w15 hown5' hgrow5 _
        have B15 : Below w20.heap.size w20 w15 := hbE.trans ((Below.refl w20.heap.size _).grown hgrow5 (by rw [World.size_alloc]; exact Nat.le_succ _) (fun z e => (hOE.lt z e).1))
        have hS5 : w15.cell? ⟨w3.heap.size, 2, none⟩ = some (.slice (some ⟨gA, 0, none⟩) a.length cv) := (HO20.out.below B15).cell 2
        have hBA := B15.alloc B15.size (.cells #[.string t, .int .i64 now] 59)
        have hSA : (w15.alloc (.cells #[.string t, .int .i64 now] 59)).cell? ⟨w3.heap.size, 2, none⟩ = some (.slice (some ⟨gA, 0, none⟩) a.length cv) := (HO20.out.below hBA).cell 2
        have hown5 := hown5'.alloc (.cells #[.string t, .int .i64 now] 59)
        have hit := two_new w15 (.string t) (.int .i64 now) 59
        refine ⟨fun _ => hS5, ?_⟩
        refine last_one 9 (by kernel_rfl) (op_value (v := .slice (some ⟨w15.heap.size, 0, none⟩) 1 1) (w' := w15.alloc (.cells #[.string t, .int .i64 now] 59)) rfl rfl (by go_simp) ⟨fun _ => hSA, ?_⟩)
        have hsA := hBA.size
        obtain ⟨a5, c5, rfl⟩ := row_any hown5
        refine last_one 10 (by kernel_rfl) (op_wp rfl rfl (wp_append_own _ (.tmp 108) (.tmp 112) 23 rfl w20.heap.size 59 i0 (.agg #[.string ⟨#[]⟩, .int .i64 0]) 2 24 Tryz.underlying23 hi0 hz0 hz1 hz2 rfl (by decide) (.slice a5 (0 + q) c5) (0 + q) _ (by go_simp) hown5 ⟨w15.heap.size, 0, none⟩ 1 1 [.string t, .int .i64 now] (by go_simp) rfl hit (by simp [Value.oneCell']) (by unfold maxLen; omega) (by omega) hsA ?_))
        intro v7 w17 hown7 hgrow7 _
        have B17 : Below w20.heap.size w20 w17 := hBA.trans ((Below.refl w20.heap.size (w15.alloc (.cells #[.string t, .int .i64 now] 59))).grown hgrow7 hsA (fun z e => (hown5.lt z e).1))
        have hS7 : w17.cell? ⟨w3.heap.size, 2, none⟩ = some (.slice (some ⟨gA, 0, none⟩) a.length cv) := (HO20.out.below B17).cell 2
        have hs17' := B17.size
        obtain ⟨a7, c7, rfl⟩ := row_any hown7
        refine ⟨fun _ => hS7, ?_⟩
        refine last_one 15 (by kernel_rfl) (op_wp rfl rfl (wp_append_own _ (.tmp 113) (.tmp 117) 23 rfl w20.heap.size 59 i0 (.agg #[.string ⟨#[]⟩, .int .i64 0]) 2 24 Tryz.underlying23 hi0 hz0 hz1 hz2 rfl (by decide) (.slice a7 (0 + q + 1) c7) (0 + q + 1) _ (by go_simp) hown7 ⟨gA, o, none⟩ (a.length - q) (cv - q) ((cellsI a).drop (q * 2)) (by go_simp) (by rw [List.length_drop, cellsI_len]; omega) (HCD.out w17 B17) (fun u hu => cellsI_one a u (List.mem_of_mem_drop hu)) (by unfold maxLen; omega) (by omega) hs17' ?_))
        intro v6 w18 hown6 hgrow6 _
        have B18 : Below w20.heap.size w20 w18 := B17.trans ((Below.refl w20.heap.size w17).grown hgrow6 hs17' (fun z e => (hown7.lt z e).1))
        have O18 := HO20.out.below B18
        have hS8 : w18.cell? ⟨w3.heap.size, 2, none⟩ = some (.slice (some ⟨gA, 0, none⟩) a.length cv) := O18.cell 2
        have hrow6 : w18.ownsRow w20.heap.size 59 2 v6 (insI wd a t now).length (cellsI (insI wd a t now)) := by
         have e1 : (insI wd a t now).length = 0 + q + 1 + (a.length - q) := by rw [ins_len]; omega
         have e2 : cellsI (insI wd a t now) = [] ++ (cellsI a).take (q * 2) ++ [.string t, .int .i64 now] ++ (cellsI a).drop (q * 2) := by
          unfold insI
          rw [← HCUT.out]
          exact cellsI_ins a q t now (by omega)
         rw [e1, e2]
         exact hown6
        obtain ⟨a6, c6, rfl⟩ := row_any hrow6
        refine ⟨fun _ => hS8, ?_⟩
        refine tkL 16 (.pointer (some ⟨w3.heap.size, 2, none⟩)) rfl hS8 ?_
        have f8 := O18.fz 2
        have O19 : Blk (w18.setCell ⟨w3.heap.size, 2, none⟩ (.slice a6 (insI wd a t now).length c6)) w3.heap.size 26 #[.int .i64 wd, .int .i64 room, .slice a6 (insI wd a t now).length c6, .slice b4 ts.length d4] := O18.set 2 (.slice a6 (insI wd a t now).length c6)
        have G19 := grownBy_setCellAt w18 w3.heap.size 2 (.slice a6 (insI wd a t now).length c6)
        have R19 := hrow6.kept G19 (.inr fun e => by have := (hrow6.lt _ e).1; omega)
        have T19 := (HT20.out.trans (But.of_below B18) (fun _ _ h => h)).trans (But.of_grown (P := fun b => b = w3.heap.size) G19 rfl) (fun _ _ h => h)
        refine last_one 17 (by kernel_rfl) (op_skip (w' := w18.setCell ⟨w3.heap.size, 2, none⟩ (.slice a6 (insI wd a t now).length c6)) rfl rfl (by go_simp) ⟨fun h => absurd rfl h, last_done (by kernel_rfl) ?_ _⟩)
        generalize w18.setCell ⟨w3.heap.size, 2, none⟩ (.slice a6 (insI wd a t now).length c6) = w19 at O19 R19 T19 ⊢
        have Z19 := T19.blk HZ7.out (fun e => by have e' : w.heap.size + 1 = w3.heap.size := e; omega)
        have P19 := T19.row HP7.out (fun g e h' => row_no_blk HP7.out HO7.out (by decide) (by rw [e, h']))
        have BF : Below w.heap.size w w19 := HB7.out.trans (T19.below (B := w.heap.size) (by have := HB7.out.size; omega) (fun b e => by have e' : b = w3.heap.size := e; omega))
        have SO : StoreOwn w19 (w.heap.size + 2) (.slice a6 (insI wd a t now).length c6) (.slice b4 ts.length d4) (insI wd a t now) ts := ⟨ownsRow_base2 R19 (by omega), ownsRow_base2 P19 (by omega), fun g e1 e2 => rows_apart R19 P19 (by decide) e1 e2⟩
        have HF : Hid (PutR wd room its ts t now wd room (insI wd a t now) ts 0) := hid (.inr ⟨⟨HVAL.out, HPU.out⟩, 0, _, .put k a HNO.out HAW.out HFIT.out HBEF.out, rfl, .inr ⟨rfl, rfl, rfl, rfl, rfl⟩⟩)
        have q0 : w19.cell? ⟨w3.heap.size, 0, none⟩ = some (.int .i64 wd) := O19.cell 0
        have q1 : w19.cell? ⟨w3.heap.size, 1, none⟩ = some (.int .i64 room) := O19.cell 1
        have q2 : w19.cell? ⟨w3.heap.size, 2, none⟩ = some (.slice a6 (insI wd a t now).length c6) := O19.cell 2
        have q3 : w19.cell? ⟨w3.heap.size, 3, none⟩ = some (.slice b4 ts.length d4) := O19.cell 3
        have s9 := Z19.store4 (.int .i64 wd) (.int .i64 room) (.slice a6 (insI wd a t now).length c6) (.slice b4 ts.length d4)
        have s0 := s9.a0; have s1 := s9.a1; have s2 := s9.a2; have s3 := s9.a3
        have k0 := s9.f0; have k1 := s9.f1; have k2 := s9.f2; have k3 := s9.f3
        have ZZ := hid s9.z
        have BB := hid ((((BF.setCell (p := ⟨w.heap.size + 1, 0, none⟩) (by simp) (.int .i64 wd)).setCell (p := ⟨w.heap.size + 1, 1, none⟩) (by simp) (.int .i64 room)).setCell (p := ⟨w.heap.size + 1, 2, none⟩) (by simp) (.slice a6 (insI wd a t now).length c6)).setCell (p := ⟨w.heap.size + 1, 3, none⟩) (by simp) (.slice b4 ts.length d4))
        have GG := fun (x : World) (j : Nat) (y : Value) => grownBy_setCellAt x (w.heap.size + 1) j y
        have SO4 := hid ((((SO.kept (GG _ 0 (.int .i64 wd)) (by omega)).kept (GG _ 1 (.int .i64 room)) (by omega)).kept (GG _ 2 (.slice a6 (insI wd a t now).length c6)) (by omega)).kept (GG _ 3 (.slice b4 ts.length d4)) (by omega))
        clear s9 GG SO O18 B18 B17 hS7 hS8 hown5 hown6 hown7 hgrow6 hgrow7 hrow6 f8 O19 R19 T19 Z19 P19 BF G19 hit hBA hS0
        go_simp
        go_wp2
        exact bodyPost_ret (v := .tuple #[.agg #[.int .i64 wd, .int .i64 room, .slice a6 (insI wd a t now).length c6, .slice b4 ts.length d4], .int .i64 0]) (by simp [results, Tryz.results28, go_sem, ZZ.out.cell]) rfl ⟨wd, room, _, ts, 0, _, _, rfl, HF.out, SO4.out, BB.out⟩
       ·refine last_one 5 (by kernel_rfl) (op_wp rfl rfl (wp_append_own _ (.tmp 103) (.tmp 107) 23 rfl w20.heap.size 59 i0 (.agg #[.string ⟨#[]⟩, .int .i64 0]) 2 24 Tryz.underlying23 hi0 hz0 hz1 hz2 rfl (by decide) (.slice (some ⟨w20.heap.size, 0, none⟩) 0 0) 0 [] (by go_simp) hOEI ⟨gA, 0, none⟩ q cv ((cellsI a).take (q * 2)) (by go_simp) hlenT (HCT.out _ hbEI) (fun u hu => cellsI_one a u (List.mem_of_mem_take hu)) (by unfold maxLen; omega) (by omega) hbEI.size ?_))
        intro v5 w15 hown5 hgrow5 _
        have hBA : Below w20.heap.size w20 w15 := hbEI.trans ((Below.refl w20.heap.size _).grown hgrow5 hbEI.size (fun z e => (hOEI.lt z e).1))
        have hSA : w15.cell? ⟨w3.heap.size, 2, none⟩ = some (.slice (some ⟨gA, 0, none⟩) a.length cv) := (HO20.out.below hBA).cell 2
        have NI : Blk w15 (w20.heap.size + 1) 59 #[.string t, .int .i64 now] := HIEI.out.kept hgrow5 (fun e => by have e' : w20.heap.size + 1 = w20.heap.size := Option.some.inj e; omega)
        have hit : ∀ j u, [Value.string t, Value.int .i64 now][j]? = some u → w15.cell? ((⟨w20.heap.size + 1, 0, none⟩ : Addr).add j) = some u := fun j u hj => by rw [addr_add', Nat.zero_add, NI.cell j]; simpa using hj
        refine ⟨fun _ => hSA, ?_⟩
        have hsA := hBA.size
        obtain ⟨a5, c5, rfl⟩ := row_any hown5
        refine last_one 10 (by kernel_rfl) (op_wp rfl rfl (wp_append_own _ (.tmp 108) (.tmp 112) 23 rfl w20.heap.size 59 i0 (.agg #[.string ⟨#[]⟩, .int .i64 0]) 2 24 Tryz.underlying23 hi0 hz0 hz1 hz2 rfl (by decide) (.slice a5 (0 + q) c5) (0 + q) _ (by go_simp) hown5 ⟨w20.heap.size + 1, 0, none⟩ 1 1 [.string t, .int .i64 now] (by go_simp) rfl hit (by simp [Value.oneCell']) (by unfold maxLen; omega) (by omega) hsA ?_))
        intro v7 w17 hown7 hgrow7 _
        have B17 : Below w20.heap.size w20 w17 := hBA.trans ((Below.refl w20.heap.size w15).grown hgrow7 hsA (fun z e => (hown5.lt z e).1))
        have hS7 : w17.cell? ⟨w3.heap.size, 2, none⟩ = some (.slice (some ⟨gA, 0, none⟩) a.length cv) := (HO20.out.below B17).cell 2
        have hs17' := B17.size
        obtain ⟨a7, c7, rfl⟩ := row_any hown7
        refine ⟨fun _ => hS7, ?_⟩
        refine last_one 15 (by kernel_rfl) (op_wp rfl rfl (wp_append_own _ (.tmp 113) (.tmp 117) 23 rfl w20.heap.size 59 i0 (.agg #[.string ⟨#[]⟩, .int .i64 0]) 2 24 Tryz.underlying23 hi0 hz0 hz1 hz2 rfl (by decide) (.slice a7 (0 + q + 1) c7) (0 + q + 1) _ (by go_simp) hown7 ⟨gA, o, none⟩ (a.length - q) (cv - q) ((cellsI a).drop (q * 2)) (by go_simp) (by rw [List.length_drop, cellsI_len]; omega) (HCD.out w17 B17) (fun u hu => cellsI_one a u (List.mem_of_mem_drop hu)) (by unfold maxLen; omega) (by omega) hs17' ?_))
        intro v6 w18 hown6 hgrow6 _
        have B18 : Below w20.heap.size w20 w18 := B17.trans ((Below.refl w20.heap.size w17).grown hgrow6 hs17' (fun z e => (hown7.lt z e).1))
        have O18 := HO20.out.below B18
        have hS8 : w18.cell? ⟨w3.heap.size, 2, none⟩ = some (.slice (some ⟨gA, 0, none⟩) a.length cv) := O18.cell 2
        have hrow6 : w18.ownsRow w20.heap.size 59 2 v6 (insI wd a t now).length (cellsI (insI wd a t now)) := by
         have e1 : (insI wd a t now).length = 0 + q + 1 + (a.length - q) := by rw [ins_len]; omega
         have e2 : cellsI (insI wd a t now) = [] ++ (cellsI a).take (q * 2) ++ [.string t, .int .i64 now] ++ (cellsI a).drop (q * 2) := by
          unfold insI
          rw [← HCUT.out]
          exact cellsI_ins a q t now (by omega)
         rw [e1, e2]
         exact hown6
        obtain ⟨a6, c6, rfl⟩ := row_any hrow6
        refine ⟨fun _ => hS8, ?_⟩
        refine tkL 16 (.pointer (some ⟨w3.heap.size, 2, none⟩)) rfl hS8 ?_
        have f8 := O18.fz 2
        have O19 : Blk (w18.setCell ⟨w3.heap.size, 2, none⟩ (.slice a6 (insI wd a t now).length c6)) w3.heap.size 26 #[.int .i64 wd, .int .i64 room, .slice a6 (insI wd a t now).length c6, .slice b4 ts.length d4] := O18.set 2 (.slice a6 (insI wd a t now).length c6)
        have G19 := grownBy_setCellAt w18 w3.heap.size 2 (.slice a6 (insI wd a t now).length c6)
        have R19 := hrow6.kept G19 (.inr fun e => by have := (hrow6.lt _ e).1; omega)
        have T19 := (HT20.out.trans (But.of_below B18) (fun _ _ h => h)).trans (But.of_grown (P := fun b => b = w3.heap.size) G19 rfl) (fun _ _ h => h)
        refine last_one 17 (by kernel_rfl) (op_skip (w' := w18.setCell ⟨w3.heap.size, 2, none⟩ (.slice a6 (insI wd a t now).length c6)) rfl rfl (by go_simp) ⟨fun h => absurd rfl h, last_done (by kernel_rfl) ?_ _⟩)
        generalize w18.setCell ⟨w3.heap.size, 2, none⟩ (.slice a6 (insI wd a t now).length c6) = w19 at O19 R19 T19 ⊢
        have Z19 := T19.blk HZ7.out (fun e => by have e' : w.heap.size + 1 = w3.heap.size := e; omega)
        have P19 := T19.row HP7.out (fun g e h' => row_no_blk HP7.out HO7.out (by decide) (by rw [e, h']))
        have BF : Below w.heap.size w w19 := HB7.out.trans (T19.below (B := w.heap.size) (by have := HB7.out.size; omega) (fun b e => by have e' : b = w3.heap.size := e; omega))
        have SO : StoreOwn w19 (w.heap.size + 2) (.slice a6 (insI wd a t now).length c6) (.slice b4 ts.length d4) (insI wd a t now) ts := ⟨ownsRow_base2 R19 (by omega), ownsRow_base2 P19 (by omega), fun g e1 e2 => rows_apart R19 P19 (by decide) e1 e2⟩
        have HF : Hid (PutR wd room its ts t now wd room (insI wd a t now) ts 0) := hid (.inr ⟨⟨HVAL.out, HPU.out⟩, 0, _, .put k a HNO.out HAW.out HFIT.out HBEF.out, rfl, .inr ⟨rfl, rfl, rfl, rfl, rfl⟩⟩)
        have q0 : w19.cell? ⟨w3.heap.size, 0, none⟩ = some (.int .i64 wd) := O19.cell 0
        have q1 : w19.cell? ⟨w3.heap.size, 1, none⟩ = some (.int .i64 room) := O19.cell 1
        have q2 : w19.cell? ⟨w3.heap.size, 2, none⟩ = some (.slice a6 (insI wd a t now).length c6) := O19.cell 2
        have q3 : w19.cell? ⟨w3.heap.size, 3, none⟩ = some (.slice b4 ts.length d4) := O19.cell 3
        have s9 := Z19.store4 (.int .i64 wd) (.int .i64 room) (.slice a6 (insI wd a t now).length c6) (.slice b4 ts.length d4)
        have s0 := s9.a0; have s1 := s9.a1; have s2 := s9.a2; have s3 := s9.a3
        have k0 := s9.f0; have k1 := s9.f1; have k2 := s9.f2; have k3 := s9.f3
        have ZZ := hid s9.z
        have BB := hid ((((BF.setCell (p := ⟨w.heap.size + 1, 0, none⟩) (by simp) (.int .i64 wd)).setCell (p := ⟨w.heap.size + 1, 1, none⟩) (by simp) (.int .i64 room)).setCell (p := ⟨w.heap.size + 1, 2, none⟩) (by simp) (.slice a6 (insI wd a t now).length c6)).setCell (p := ⟨w.heap.size + 1, 3, none⟩) (by simp) (.slice b4 ts.length d4))
        have GG := fun (x : World) (j : Nat) (y : Value) => grownBy_setCellAt x (w.heap.size + 1) j y
        have SO4 := hid ((((SO.kept (GG _ 0 (.int .i64 wd)) (by omega)).kept (GG _ 1 (.int .i64 room)) (by omega)).kept (GG _ 2 (.slice a6 (insI wd a t now).length c6)) (by omega)).kept (GG _ 3 (.slice b4 ts.length d4)) (by omega))
        clear s9 GG SO O18 B18 B17 hS7 hS8 hown5 hown6 hown7 hgrow6 hgrow7 hrow6 f8 O19 R19 T19 Z19 P19 BF G19 hit hBA hS0
        go_simp
        go_wp2
        exact bodyPost_ret (v := .tuple #[.agg #[.int .i64 wd, .int .i64 room, .slice a6 (insI wd a t now).length c6, .slice b4 ts.length d4], .int .i64 0]) (by simp [results, Tryz.results28, go_sem, ZZ.out.cell]) rfl ⟨wd, room, _, ts, 0, _, _, rfl, HF.out, SO4.out, BB.out⟩
      ·refine last_one 0 (by kernel_rfl) (op_value (v := .slice (some ⟨w20.heap.size + 1, 0, none⟩) 0 0) (w' := (w20.drew.alloc (.cells #[.string t, .int .i64 now] 59)).alloc (.cells #[] 59)) rfl rfl (by go_simp) ⟨fun _ => hSIE, ?_⟩)
       refine last_one 5 (by kernel_rfl) (op_wp rfl rfl (wp_append_own _ (.tmp 103) (.tmp 107) 23 rfl w20.heap.size 59 i0 (.agg #[.string ⟨#[]⟩, .int .i64 0]) 2 24 Tryz.underlying23 hi0 hz0 hz1 hz2 rfl (by decide) (.slice (some ⟨w20.heap.size + 1, 0, none⟩) 0 0) 0 [] (by go_simp) hOIE ⟨gA, 0, none⟩ q cv ((cellsI a).take (q * 2)) (by go_simp) hlenT (HCT.out _ hbIE) (fun u hu => cellsI_one a u (List.mem_of_mem_take hu)) (by unfold maxLen; omega) (by omega) hbIE.size ?_))
       intro v5 w15 hown5 hgrow5 _
       have hBA : Below w20.heap.size w20 w15 := hbIE.trans ((Below.refl w20.heap.size _).grown hgrow5 hbIE.size (fun z e => (hOIE.lt z e).1))
       have hSA : w15.cell? ⟨w3.heap.size, 2, none⟩ = some (.slice (some ⟨gA, 0, none⟩) a.length cv) := (HO20.out.below hBA).cell 2
       have NI : Blk w15 w20.heap.size 59 #[.string t, .int .i64 now] := HIIE.out.kept hgrow5 (fun e => by have e' : w20.heap.size = w20.heap.size + 1 := Option.some.inj e; omega)
       have hit : ∀ j u, [Value.string t, Value.int .i64 now][j]? = some u → w15.cell? ((⟨w20.heap.size, 0, none⟩ : Addr).add j) = some u := fun j u hj => by rw [addr_add', Nat.zero_add, NI.cell j]; simpa using hj
       refine ⟨fun _ => hSA, ?_⟩
       have hsA := hBA.size
       obtain ⟨a5, c5, rfl⟩ := row_any hown5
       refine last_one 10 (by kernel_rfl) (op_wp rfl rfl (wp_append_own _ (.tmp 108) (.tmp 112) 23 rfl w20.heap.size 59 i0 (.agg #[.string ⟨#[]⟩, .int .i64 0]) 2 24 Tryz.underlying23 hi0 hz0 hz1 hz2 rfl (by decide) (.slice a5 (0 + q) c5) (0 + q) _ (by go_simp) hown5 ⟨w20.heap.size, 0, none⟩ 1 1 [.string t, .int .i64 now] (by go_simp) rfl hit (by simp [Value.oneCell']) (by unfold maxLen; omega) (by omega) hsA ?_))
       intro v7 w17 hown7 hgrow7 _
       have B17 : Below w20.heap.size w20 w17 := hBA.trans ((Below.refl w20.heap.size w15).grown hgrow7 hsA (fun z e => (hown5.lt z e).1))
       have hS7 : w17.cell? ⟨w3.heap.size, 2, none⟩ = some (.slice (some ⟨gA, 0, none⟩) a.length cv) := (HO20.out.below B17).cell 2
       have hs17' := B17.size
       obtain ⟨a7, c7, rfl⟩ := row_any hown7
       refine ⟨fun _ => hS7, ?_⟩
       refine last_one 15 (by kernel_rfl) (op_wp rfl rfl (wp_append_own _ (.tmp 113) (.tmp 117) 23 rfl w20.heap.size 59 i0 (.agg #[.string ⟨#[]⟩, .int .i64 0]) 2 24 Tryz.underlying23 hi0 hz0 hz1 hz2 rfl (by decide) (.slice a7 (0 + q + 1) c7) (0 + q + 1) _ (by go_simp) hown7 ⟨gA, o, none⟩ (a.length - q) (cv - q) ((cellsI a).drop (q * 2)) (by go_simp) (by rw [List.length_drop, cellsI_len]; omega) (HCD.out w17 B17) (fun u hu => cellsI_one a u (List.mem_of_mem_drop hu)) (by unfold maxLen; omega) (by omega) hs17' ?_))
       intro v6 w18 hown6 hgrow6 _
       have B18 : Below w20.heap.size w20 w18 := B17.trans ((Below.refl w20.heap.size w17).grown hgrow6 hs17' (fun z e => (hown7.lt z e).1))
       have O18 := HO20.out.below B18
       have hS8 : w18.cell? ⟨w3.heap.size, 2, none⟩ = some (.slice (some ⟨gA, 0, none⟩) a.length cv) := O18.cell 2
       have hrow6 : w18.ownsRow w20.heap.size 59 2 v6 (insI wd a t now).length (cellsI (insI wd a t now)) := by
        have e1 : (insI wd a t now).length = 0 + q + 1 + (a.length - q) := by rw [ins_len]; omega
        have e2 : cellsI (insI wd a t now) = [] ++ (cellsI a).take (q * 2) ++ [.string t, .int .i64 now] ++ (cellsI a).drop (q * 2) := by
         unfold insI
         rw [← HCUT.out]
         exact cellsI_ins a q t now (by omega)
        rw [e1, e2]
        exact hown6
       obtain ⟨a6, c6, rfl⟩ := row_any hrow6
       refine ⟨fun _ => hS8, ?_⟩
       refine tkL 16 (.pointer (some ⟨w3.heap.size, 2, none⟩)) rfl hS8 ?_
       have f8 := O18.fz 2
       have O19 : Blk (w18.setCell ⟨w3.heap.size, 2, none⟩ (.slice a6 (insI wd a t now).length c6)) w3.heap.size 26 #[.int .i64 wd, .int .i64 room, .slice a6 (insI wd a t now).length c6, .slice b4 ts.length d4] := O18.set 2 (.slice a6 (insI wd a t now).length c6)
       have G19 := grownBy_setCellAt w18 w3.heap.size 2 (.slice a6 (insI wd a t now).length c6)
       have R19 := hrow6.kept G19 (.inr fun e => by have := (hrow6.lt _ e).1; omega)
       have T19 := (HT20.out.trans (But.of_below B18) (fun _ _ h => h)).trans (But.of_grown (P := fun b => b = w3.heap.size) G19 rfl) (fun _ _ h => h)
       refine last_one 17 (by kernel_rfl) (op_skip (w' := w18.setCell ⟨w3.heap.size, 2, none⟩ (.slice a6 (insI wd a t now).length c6)) rfl rfl (by go_simp) ⟨fun h => absurd rfl h, last_done (by kernel_rfl) ?_ _⟩)
       generalize w18.setCell ⟨w3.heap.size, 2, none⟩ (.slice a6 (insI wd a t now).length c6) = w19 at O19 R19 T19 ⊢
       have Z19 := T19.blk HZ7.out (fun e => by have e' : w.heap.size + 1 = w3.heap.size := e; omega)
       have P19 := T19.row HP7.out (fun g e h' => row_no_blk HP7.out HO7.out (by decide) (by rw [e, h']))
       have BF : Below w.heap.size w w19 := HB7.out.trans (T19.below (B := w.heap.size) (by have := HB7.out.size; omega) (fun b e => by have e' : b = w3.heap.size := e; omega))
       have SO : StoreOwn w19 (w.heap.size + 2) (.slice a6 (insI wd a t now).length c6) (.slice b4 ts.length d4) (insI wd a t now) ts := ⟨ownsRow_base2 R19 (by omega), ownsRow_base2 P19 (by omega), fun g e1 e2 => rows_apart R19 P19 (by decide) e1 e2⟩
       have HF : Hid (PutR wd room its ts t now wd room (insI wd a t now) ts 0) := hid (.inr ⟨⟨HVAL.out, HPU.out⟩, 0, _, .put k a HNO.out HAW.out HFIT.out HBEF.out, rfl, .inr ⟨rfl, rfl, rfl, rfl, rfl⟩⟩)
       have q0 : w19.cell? ⟨w3.heap.size, 0, none⟩ = some (.int .i64 wd) := O19.cell 0
       have q1 : w19.cell? ⟨w3.heap.size, 1, none⟩ = some (.int .i64 room) := O19.cell 1
       have q2 : w19.cell? ⟨w3.heap.size, 2, none⟩ = some (.slice a6 (insI wd a t now).length c6) := O19.cell 2
       have q3 : w19.cell? ⟨w3.heap.size, 3, none⟩ = some (.slice b4 ts.length d4) := O19.cell 3
       have s9 := Z19.store4 (.int .i64 wd) (.int .i64 room) (.slice a6 (insI wd a t now).length c6) (.slice b4 ts.length d4)
       have s0 := s9.a0; have s1 := s9.a1; have s2 := s9.a2; have s3 := s9.a3
       have k0 := s9.f0; have k1 := s9.f1; have k2 := s9.f2; have k3 := s9.f3
       have ZZ := hid s9.z
       have BB := hid ((((BF.setCell (p := ⟨w.heap.size + 1, 0, none⟩) (by simp) (.int .i64 wd)).setCell (p := ⟨w.heap.size + 1, 1, none⟩) (by simp) (.int .i64 room)).setCell (p := ⟨w.heap.size + 1, 2, none⟩) (by simp) (.slice a6 (insI wd a t now).length c6)).setCell (p := ⟨w.heap.size + 1, 3, none⟩) (by simp) (.slice b4 ts.length d4))
       have GG := fun (x : World) (j : Nat) (y : Value) => grownBy_setCellAt x (w.heap.size + 1) j y
       have SO4 := hid ((((SO.kept (GG _ 0 (.int .i64 wd)) (by omega)).kept (GG _ 1 (.int .i64 room)) (by omega)).kept (GG _ 2 (.slice a6 (insI wd a t now).length c6)) (by omega)).kept (GG _ 3 (.slice b4 ts.length d4)) (by omega))
       clear s9 GG SO O18 B18 B17 hS7 hS8 hown5 hown6 hown7 hgrow6 hgrow7 hrow6 f8 O19 R19 T19 Z19 P19 BF G19 hit hBA hS0
       go_simp
       go_wp2
       exact bodyPost_ret (v := .tuple #[.agg #[.int .i64 wd, .int .i64 room, .slice a6 (insI wd a t now).length c6, .slice b4 ts.length d4], .int .i64 0]) (by simp [results, Tryz.results28, go_sem, ZZ.out.cell]) rfl ⟨wd, room, _, ts, 0, _, _, rfl, HF.out, SO4.out, BB.out⟩
  ·have HNF := hid hfit
   have HAWY : Hid (∀ (W : World), Below wr.heap.size wr W → Calls Tryz.prog 58 #[.agg #[.int .i64 wd, .int .i64 room, .slice av a.length cv, .slice b4 ts.length d4], .slice an nd.length cn] W (AwayR wd room (.slice av a.length cv) (.slice b4 ts.length d4) a nd W)) := hid fun W h => l4Away_any wd room av cv b4 d4 (.slice an nd.length cn) a ts nd _ W (HOI.out.kept (grown_of_below h) (by cases hv : (Value.slice av a.length cv).ownBlock <;> simp)) (Reads.of_row (Below.row h (HBT.out.row HR7.out (fun g e h' => row_no_blk HR7.out HO7.out (by decide) (by rw [e, h']))))) hnds HAA.out (by omega) (fun i => by
    by_cases hi : i < a.length
    ·have := HSIA.out i hi; omega
    ·unfold itx; rw [List.getD_eq_getElem?_getD, List.getElem?_eq_none (by omega)]; show (0 : Nat) ≤ 1048576; omega)
   have HREST : Hid (∀ (W : World), Below wr.heap.size wr W → True) := hid fun _ _ => trivial
   by_cases h1 : ((totI a : Nat) : Int) + (t.size : Int) ≤ room
   ·have h2 : (1000 : Int) ≤ ((a.length : Nat) : Int) := by
     apply Classical.byContradiction
     intro h
     exact hfit ⟨h1, by omega⟩
    clear hfit
    go_wp2_with fail
    refine wp_region_held (S := fun w' => w'.cell? ⟨w3.heap.size, 0, none⟩ = some (.int .i64 wd) ∧ w'.cell? ⟨w3.heap.size, 1, none⟩ = some (.int .i64 room) ∧ w'.cell? ⟨w3.heap.size, 2, none⟩ = some (.slice av a.length cv) ∧ w'.cell? ⟨w3.heap.size, 3, none⟩ = some (.slice b4 ts.length d4) ∧ w'.cell? ⟨w.heap.size, 1, none⟩ = some (.int .i64 room)) (by kernel_rfl) ?_
    change wpAnyH _ _ _ _ _ _ _ _ (World.drew _)
    refine tkA 0 (.agg #[.int .i64 wd, .int .i64 room, .slice av a.length cv, .slice b4 ts.length d4]) rfl hS0 ?_
    refine tkA 2 (.string t) rfl hS0 ?_
    refine tkA 3 (.int .i64 (t.size : Nat)) rfl hS0 ?_
    refine tkA 5 (.pointer (some ⟨w.heap.size, 1, none⟩)) rfl hS0 ?_
    refine tkA 6 (.int .i64 room) rfl hS0 ?_
    refine held_one 1 (by kernel_rfl) (op_calls (f := 49) (args := #[.agg #[.int .i64 wd, .int .i64 room, .slice av a.length cv, .slice b4 ts.length d4]]) rfl rfl (by go_simp) HBY.out ?_)
    rintro e w8 ⟨rfl, hb8⟩
    have hb8' : Below wr.heap.size wr w8 := ⟨hb8.os, hb8.tape, hb8.output, hb8.size, hb8.block⟩
    have hS1 := HFX.out w8 hb8'
    refine ⟨_, rfl, hS1, ?_⟩
    refine wpAnyH_take (i := 4) (v := .int .i64 (((totI a : Nat) : Int) + ((t.size : Nat) : Int))) rfl (by kernel_rfl) (by kernel_rfl) (by kernel_rfl) (fun _ _ _ h => h) (.inl ⟨rfl, fun w' hS => by obtain ⟨s1, s2, s3, s4, s5⟩ := hS; first | (go_simp; done) | (go_simp; rw [IntKind.wrap_i64]; omega)⟩) hS1 ?_
    refine tkA 7 (.bool false) rfl hS1 ?_
    refine tkA 8 (.bool false) rfl hS1 ?_
    refine tkG 9 (.pointer (some ⟨w3.heap.size, 2, none⟩)) rfl hS1 ?_
    refine tkG 10 (.slice av a.length cv) rfl hS1 ?_
    refine tkG 11 (.int .i64 (a.length : Nat)) rfl hS1 ?_
    refine tkG 12 (.bool true) rfl hS1 ?_
    refine tkA 13 (.bool true) rfl hS1 ?_
    refine wpAnyH_done (by kernel_rfl) ?_ _
    have HB8 := hid hb8'
    clear hS0 hb8 hb8'
    obtain ⟨s1, s2, s3, s4, s5⟩ := id hS1
    go_simp
    go_wp2_with fail
    refine (HAWY.out w8 HB8.out).mono ?_
    rintro e w9 (⟨hall, rfl, hb9⟩ | ⟨i, v9, hle, rfl, hrow9, hb9⟩)
    ·have HF : Hid (PutR wd room its ts t now 0 0 [] [] 3) := hid (.inr ⟨⟨HVAL.out, HPU.out⟩, 3, its, .full k a HNO.out HAW.out (fun j z hj hz => by
      by_cases e : j = k
      ·subst e
       rw [hz.uniq HAS.out.lt HAW.out]
       exact HNF.out
      ·exact HBEF.out j z (by omega) hz) (fun i hi => (HNEED.out.mem _).1 (hall i hi)), rfl, .inl ⟨by decide, rfl, rfl, rfl, rfl⟩⟩)
     have B9 : Below wr.heap.size wr w9 := HB8.out.trans (hb9.mono HB8.out.size)
     have Z9 := ((HBT.out.blk HZ7.out (fun e => by have e' : w.heap.size + 1 = w3.heap.size := e; omega)).below B9).alloc (.cells #[.int .i64 wd, .int .i64 room, .slice av a.length cv, .slice b4 ts.length d4] 26)
     have BW : Below w.heap.size w w9 := (HB7.out.trans (HBT.out.below (B := w.heap.size) (by have := HB7.out.size; omega) (fun b e => by have e' : b = w3.heap.size := e; omega))).trans (B9.mono (by have := HB7.out.size; have := HBT.out.size; omega))
     have B10 := BW.alloc BW.size (.cells #[.int .i64 wd, .int .i64 room, .slice av a.length cv, .slice b4 ts.length d4] 26)
     have s9 := Z9.store4 (.int .i64 0) (.int .i64 0) (.slice none 0 0) (.slice none 0 0)
     have s0 := s9.a0; have s1 := s9.a1; have s2 := s9.a2; have s3 := s9.a3
     have k0 := s9.f0; have k1 := s9.f1; have k2 := s9.f2; have k3 := s9.f3
     have ZZ := hid s9.z
     have BB := hid ((((B10.setCell (p := ⟨w.heap.size + 1, 0, none⟩) (by simp) (.int .i64 0)).setCell (p := ⟨w.heap.size + 1, 1, none⟩) (by simp) (.int .i64 0)).setCell (p := ⟨w.heap.size + 1, 2, none⟩) (by simp) (.slice none 0 0)).setCell (p := ⟨w.heap.size + 1, 3, none⟩) (by simp) (.slice none 0 0))
     clear s9
     clear hall hb9 B9 Z9 BW B10
     go_wp2
     refine bodyPost_ret (v := .tuple #[.agg #[.int .i64 0, .int .i64 0, .slice none 0 0, .slice none 0 0], .int .i64 3]) (by simp [results, Tryz.results28, go_sem, ZZ.out.cell]) rfl ⟨0, 0, [], [], 3, _, _, rfl, HF.out, StoreOwn.none _ _, BB.out⟩
    ·have hle' : LeastAway wd (NeedTo wd its ts ts.length) a i := ⟨hle.lt, fun h => hle.free ((HNEED.out.mem _).2 h), fun j hj hn => hle.least j hj (fun h => hn ((HNEED.out.mem _).1 h))⟩
     have hin := hle.lt
     have HAW9 := hid (AwayN.step HAW.out hle')
     have HBEF9 : Hid (∀ j z, j < k + 1 → AwayN wd (NeedTo wd its ts ts.length) its j z → ¬ fitsI room z t.size) := hid fun j z hj hz => by
      by_cases e : j = k
      ·subst e
       rw [hz.uniq HAS.out.lt HAW.out]
       exact HNF.out
      ·exact HBEF.out j z (by omega) hz
     obtain ⟨a9, c9, rfl⟩ := row_any hrow9
     have hl9 : (a.eraseIdx i).length + 1 = a.length := by rw [List.length_eraseIdx_of_lt hin]; omega
     have B9 : Below wr.heap.size wr w9 := HB8.out.trans (hb9.mono HB8.out.size)
     have hs8 := HB8.out.size
     have hsr := HBT.out.size
     have hol := HOX.out.lt
     have O9 := (HOX.out.below B9).alloc (.cells #[.int .i64 wd, .int .i64 room, .slice a9 (a.eraseIdx i).length c9, .slice b4 ts.length d4] 26)
     have X9 := Blk.new w9 26 #[.int .i64 wd, .int .i64 room, .slice a9 (a.eraseIdx i).length c9, .slice b4 ts.length d4]
     have R9 := hrow9.alloc (.cells #[.int .i64 wd, .int .i64 room, .slice a9 (a.eraseIdx i).length c9, .slice b4 ts.length d4] 26)
     have T9 : But (fun b => b = w3.heap.size) wr (w9.alloc (.cells #[.int .i64 wd, .int .i64 room, .slice a9 (a.eraseIdx i).length c9, .slice b4 ts.length d4] 26)) := But.of_below (B9.alloc B9.size (.cells #[.int .i64 wd, .int .i64 room, .slice a9 (a.eraseIdx i).length c9, .slice b4 ts.length d4] 26))
     have x0 : (w9.alloc (.cells #[.int .i64 wd, .int .i64 room, .slice a9 (a.eraseIdx i).length c9, .slice b4 ts.length d4] 26)).cell? ⟨w9.heap.size, 0, none⟩ = some (.int .i64 wd) := X9.cell 0
     have x1 : (w9.alloc (.cells #[.int .i64 wd, .int .i64 room, .slice a9 (a.eraseIdx i).length c9, .slice b4 ts.length d4] 26)).cell? ⟨w9.heap.size, 1, none⟩ = some (.int .i64 room) := X9.cell 1
     have x2 : (w9.alloc (.cells #[.int .i64 wd, .int .i64 room, .slice a9 (a.eraseIdx i).length c9, .slice b4 ts.length d4] 26)).cell? ⟨w9.heap.size, 2, none⟩ = some (.slice a9 (a.eraseIdx i).length c9) := X9.cell 2
     have x3 : (w9.alloc (.cells #[.int .i64 wd, .int .i64 room, .slice a9 (a.eraseIdx i).length c9, .slice b4 ts.length d4] 26)).cell? ⟨w9.heap.size, 3, none⟩ = some (.slice b4 ts.length d4) := X9.cell 3
     have q9 := O9.store4 (.int .i64 wd) (.int .i64 room) (.slice a9 (a.eraseIdx i).length c9) (.slice b4 ts.length d4)
     have q0 := q9.a0; have q1 := q9.a1; have q2 := q9.a2; have q3 := q9.a3
     have k0 := q9.f0; have k1 := q9.f1; have k2 := q9.f2; have k3 := q9.f3
     have HQ := hid q9.z
     have GG := fun (x : World) (j : Nat) (y : Value) => grownBy_setCellAt x w3.heap.size j y
     have G9 := grown_same (grown_same (grown_same (GG (w9.alloc (.cells #[.int .i64 wd, .int .i64 room, .slice a9 (a.eraseIdx i).length c9, .slice b4 ts.length d4] 26)) 0 (.int .i64 wd)) (GG _ 1 (.int .i64 room))) (GG _ 2 (.slice a9 (a.eraseIdx i).length c9))) (GG _ 3 (.slice b4 ts.length d4))
     have HRF := hid (R9.kept G9 (.inr fun e => by have := (R9.lt _ e).1; omega))
     have HTF := hid ((HBT.out.trans T9 (fun _ _ h => h)).trans (But.of_grown (P := fun b => b = w3.heap.size) G9 rfl) (fun _ _ h => h))
     have HM0 := hid (HOX.out.cell 2)
     clear q9 GG G9 R9 T9 X9 O9 B9 hb9 hrow9 hle hle' s1 s2 s3 s4 s5 hS1
     go_wp2
     refine ⟨⟨k + 1, a.eraseIdx i, _, HAW9.out, HBEF9.out, HQ.out, ownsRow_base2 HRF.out (by omega), HTF.out⟩, ?_⟩
     rw [show (World.cell? wr ⟨w3.heap.size, 2, none⟩) = some (.slice av a.length cv) from HM0.out]
     rw [show (World.cell? _ ⟨w3.heap.size, 2, none⟩) = some (.slice a9 (a.eraseIdx i).length c9) from HQ.out.cell 2]
     show (a.eraseIdx i).length < a.length
     omega
   ·have h1' : room < ((totI a : Nat) : Int) + (t.size : Int) := by omega
    clear hfit h1
    go_wp2_with fail
    refine wp_region_held (S := fun w' => w'.cell? ⟨w3.heap.size, 0, none⟩ = some (.int .i64 wd) ∧ w'.cell? ⟨w3.heap.size, 1, none⟩ = some (.int .i64 room) ∧ w'.cell? ⟨w3.heap.size, 2, none⟩ = some (.slice av a.length cv) ∧ w'.cell? ⟨w3.heap.size, 3, none⟩ = some (.slice b4 ts.length d4) ∧ w'.cell? ⟨w.heap.size, 1, none⟩ = some (.int .i64 room)) (by kernel_rfl) ?_
    change wpAnyH _ _ _ _ _ _ _ _ (World.drew _)
    refine tkA 0 (.agg #[.int .i64 wd, .int .i64 room, .slice av a.length cv, .slice b4 ts.length d4]) rfl hS0 ?_
    refine tkA 2 (.string t) rfl hS0 ?_
    refine tkA 3 (.int .i64 (t.size : Nat)) rfl hS0 ?_
    refine tkA 5 (.pointer (some ⟨w.heap.size, 1, none⟩)) rfl hS0 ?_
    refine tkA 6 (.int .i64 room) rfl hS0 ?_
    refine held_one 1 (by kernel_rfl) (op_calls (f := 49) (args := #[.agg #[.int .i64 wd, .int .i64 room, .slice av a.length cv, .slice b4 ts.length d4]]) rfl rfl (by go_simp) HBY.out ?_)
    rintro e w8 ⟨rfl, hb8⟩
    have hb8' : Below wr.heap.size wr w8 := ⟨hb8.os, hb8.tape, hb8.output, hb8.size, hb8.block⟩
    have hS1 := HFX.out w8 hb8'
    refine ⟨_, rfl, hS1, ?_⟩
    refine wpAnyH_take (i := 4) (v := .int .i64 (((totI a : Nat) : Int) + ((t.size : Nat) : Int))) rfl (by kernel_rfl) (by kernel_rfl) (by kernel_rfl) (fun _ _ _ h => h) (.inl ⟨rfl, fun w' hS => by obtain ⟨s1, s2, s3, s4, s5⟩ := hS; first | (go_simp; done) | (go_simp; rw [IntKind.wrap_i64]; omega)⟩) hS1 ?_
    refine tkA 7 (.bool true) rfl hS1 ?_
    refine tkA 8 (.bool true) rfl hS1 ?_
    refine tkO 9 rfl hS1 ?_
    refine tkO 10 rfl hS1 ?_
    refine tkO 11 rfl hS1 ?_
    refine tkO 12 rfl hS1 ?_
    refine tkA 13 (.bool true) rfl hS1 ?_
    refine wpAnyH_done (by kernel_rfl) ?_ _
    have HB8 := hid hb8'
    clear hS0 hb8 hb8'
    obtain ⟨s1, s2, s3, s4, s5⟩ := id hS1
    go_simp
    go_wp2_with fail
    refine (HAWY.out w8 HB8.out).mono ?_
    rintro e w9 (⟨hall, rfl, hb9⟩ | ⟨i, v9, hle, rfl, hrow9, hb9⟩)
    ·have HF : Hid (PutR wd room its ts t now 0 0 [] [] 3) := hid (.inr ⟨⟨HVAL.out, HPU.out⟩, 3, its, .full k a HNO.out HAW.out (fun j z hj hz => by
      by_cases e : j = k
      ·subst e
       rw [hz.uniq HAS.out.lt HAW.out]
       exact HNF.out
      ·exact HBEF.out j z (by omega) hz) (fun i hi => (HNEED.out.mem _).1 (hall i hi)), rfl, .inl ⟨by decide, rfl, rfl, rfl, rfl⟩⟩)
     have B9 : Below wr.heap.size wr w9 := HB8.out.trans (hb9.mono HB8.out.size)
     have Z9 := ((HBT.out.blk HZ7.out (fun e => by have e' : w.heap.size + 1 = w3.heap.size := e; omega)).below B9).alloc (.cells #[.int .i64 wd, .int .i64 room, .slice av a.length cv, .slice b4 ts.length d4] 26)
     have BW : Below w.heap.size w w9 := (HB7.out.trans (HBT.out.below (B := w.heap.size) (by have := HB7.out.size; omega) (fun b e => by have e' : b = w3.heap.size := e; omega))).trans (B9.mono (by have := HB7.out.size; have := HBT.out.size; omega))
     have B10 := BW.alloc BW.size (.cells #[.int .i64 wd, .int .i64 room, .slice av a.length cv, .slice b4 ts.length d4] 26)
     have s9 := Z9.store4 (.int .i64 0) (.int .i64 0) (.slice none 0 0) (.slice none 0 0)
     have s0 := s9.a0; have s1 := s9.a1; have s2 := s9.a2; have s3 := s9.a3
     have k0 := s9.f0; have k1 := s9.f1; have k2 := s9.f2; have k3 := s9.f3
     have ZZ := hid s9.z
     have BB := hid ((((B10.setCell (p := ⟨w.heap.size + 1, 0, none⟩) (by simp) (.int .i64 0)).setCell (p := ⟨w.heap.size + 1, 1, none⟩) (by simp) (.int .i64 0)).setCell (p := ⟨w.heap.size + 1, 2, none⟩) (by simp) (.slice none 0 0)).setCell (p := ⟨w.heap.size + 1, 3, none⟩) (by simp) (.slice none 0 0))
     clear s9
     clear hall hb9 B9 Z9 BW B10
     go_wp2
     refine bodyPost_ret (v := .tuple #[.agg #[.int .i64 0, .int .i64 0, .slice none 0 0, .slice none 0 0], .int .i64 3]) (by simp [results, Tryz.results28, go_sem, ZZ.out.cell]) rfl ⟨0, 0, [], [], 3, _, _, rfl, HF.out, StoreOwn.none _ _, BB.out⟩
    ·have hle' : LeastAway wd (NeedTo wd its ts ts.length) a i := ⟨hle.lt, fun h => hle.free ((HNEED.out.mem _).2 h), fun j hj hn => hle.least j hj (fun h => hn ((HNEED.out.mem _).1 h))⟩
     have hin := hle.lt
     have HAW9 := hid (AwayN.step HAW.out hle')
     have HBEF9 : Hid (∀ j z, j < k + 1 → AwayN wd (NeedTo wd its ts ts.length) its j z → ¬ fitsI room z t.size) := hid fun j z hj hz => by
      by_cases e : j = k
      ·subst e
       rw [hz.uniq HAS.out.lt HAW.out]
       exact HNF.out
      ·exact HBEF.out j z (by omega) hz
     obtain ⟨a9, c9, rfl⟩ := row_any hrow9
     have hl9 : (a.eraseIdx i).length + 1 = a.length := by rw [List.length_eraseIdx_of_lt hin]; omega
     have B9 : Below wr.heap.size wr w9 := HB8.out.trans (hb9.mono HB8.out.size)
     have hs8 := HB8.out.size
     have hsr := HBT.out.size
     have hol := HOX.out.lt
     have O9 := (HOX.out.below B9).alloc (.cells #[.int .i64 wd, .int .i64 room, .slice a9 (a.eraseIdx i).length c9, .slice b4 ts.length d4] 26)
     have X9 := Blk.new w9 26 #[.int .i64 wd, .int .i64 room, .slice a9 (a.eraseIdx i).length c9, .slice b4 ts.length d4]
     have R9 := hrow9.alloc (.cells #[.int .i64 wd, .int .i64 room, .slice a9 (a.eraseIdx i).length c9, .slice b4 ts.length d4] 26)
     have T9 : But (fun b => b = w3.heap.size) wr (w9.alloc (.cells #[.int .i64 wd, .int .i64 room, .slice a9 (a.eraseIdx i).length c9, .slice b4 ts.length d4] 26)) := But.of_below (B9.alloc B9.size (.cells #[.int .i64 wd, .int .i64 room, .slice a9 (a.eraseIdx i).length c9, .slice b4 ts.length d4] 26))
     have x0 : (w9.alloc (.cells #[.int .i64 wd, .int .i64 room, .slice a9 (a.eraseIdx i).length c9, .slice b4 ts.length d4] 26)).cell? ⟨w9.heap.size, 0, none⟩ = some (.int .i64 wd) := X9.cell 0
     have x1 : (w9.alloc (.cells #[.int .i64 wd, .int .i64 room, .slice a9 (a.eraseIdx i).length c9, .slice b4 ts.length d4] 26)).cell? ⟨w9.heap.size, 1, none⟩ = some (.int .i64 room) := X9.cell 1
     have x2 : (w9.alloc (.cells #[.int .i64 wd, .int .i64 room, .slice a9 (a.eraseIdx i).length c9, .slice b4 ts.length d4] 26)).cell? ⟨w9.heap.size, 2, none⟩ = some (.slice a9 (a.eraseIdx i).length c9) := X9.cell 2
     have x3 : (w9.alloc (.cells #[.int .i64 wd, .int .i64 room, .slice a9 (a.eraseIdx i).length c9, .slice b4 ts.length d4] 26)).cell? ⟨w9.heap.size, 3, none⟩ = some (.slice b4 ts.length d4) := X9.cell 3
     have q9 := O9.store4 (.int .i64 wd) (.int .i64 room) (.slice a9 (a.eraseIdx i).length c9) (.slice b4 ts.length d4)
     have q0 := q9.a0; have q1 := q9.a1; have q2 := q9.a2; have q3 := q9.a3
     have k0 := q9.f0; have k1 := q9.f1; have k2 := q9.f2; have k3 := q9.f3
     have HQ := hid q9.z
     have GG := fun (x : World) (j : Nat) (y : Value) => grownBy_setCellAt x w3.heap.size j y
     have G9 := grown_same (grown_same (grown_same (GG (w9.alloc (.cells #[.int .i64 wd, .int .i64 room, .slice a9 (a.eraseIdx i).length c9, .slice b4 ts.length d4] 26)) 0 (.int .i64 wd)) (GG _ 1 (.int .i64 room))) (GG _ 2 (.slice a9 (a.eraseIdx i).length c9))) (GG _ 3 (.slice b4 ts.length d4))
     have HRF := hid (R9.kept G9 (.inr fun e => by have := (R9.lt _ e).1; omega))
     have HTF := hid ((HBT.out.trans T9 (fun _ _ h => h)).trans (But.of_grown (P := fun b => b = w3.heap.size) G9 rfl) (fun _ _ h => h))
     have HM0 := hid (HOX.out.cell 2)
     clear q9 GG G9 R9 T9 X9 O9 B9 hb9 hrow9 hle hle' s1 s2 s3 s4 s5 hS1
     go_wp2
     refine ⟨⟨k + 1, a.eraseIdx i, _, HAW9.out, HBEF9.out, HQ.out, ownsRow_base2 HRF.out (by omega), HTF.out⟩, ?_⟩
     rw [show (World.cell? wr ⟨w3.heap.size, 2, none⟩) = some (.slice av a.length cv) from HM0.out]
     rw [show (World.cell? _ ⟨w3.heap.size, 2, none⟩) = some (.slice a9 (a.eraseIdx i).length c9) from HQ.out.cell 2]
     show (a.eraseIdx i).length < a.length
     omega
end Go.Proofs.YtkjdabnglcabiaaGreatDoor
