import Derived.Shelf.Spec.SlicesInsertGrow
import Derived.Test.YtffpdgpcjgfgcaaGreatDoorPinSpec
import Derived.Test.YtffpdgpcjgfgcaaGreatDoorUnpinSpec
import Derived.Test.YtffpdgpcjgfgcaaGreatDoorPutImpl
import Derived.Test.YtffpdgpcjgfgcaaGreatDoorNamesLaw
/- slices.Insert of one text; (*shelf).pin. -/
namespace Go.Proofs.YtffpdgpcjgfgcaaGreatDoor
open Go.RowKit Go.Shelf
def nRen : Ren := { f := fun n => if n = 22 then 78 else if n = 17 then 129 else if n = 29 then 102 else if n = 30 then 103 else if n = 36 then 115 else n, t := fun n => if n = 24 then 23 else n, g := fun n => n }
theorem nLays : Lays2.n22 Tryz.prog nRen where
  mixed := by kernel_rfl
  f17 := by kernel_rfl
  f22 := by kernel_rfl
  f29 := by kernel_rfl
  f30 := by kernel_rfl
  f36 := by kernel_rfl
  t0 := by kernel_rfl
  a0 := fun _ => by kernel_rfl
  z0 := fun _ => by kernel_rfl
  v0 := fun _ => by kernel_rfl
  t3 := by kernel_rfl
  a3 := fun _ => by kernel_rfl
  z3 := fun _ => by kernel_rfl
  v3 := fun _ => by kernel_rfl
  t4 := by kernel_rfl
  a4 := fun _ => by kernel_rfl
  z4 := fun _ => by kernel_rfl
  v4 := fun _ => by kernel_rfl
  t9 := by kernel_rfl
  a9 := fun _ => by kernel_rfl
  z9 := fun _ => by kernel_rfl
  v9 := fun _ => by kernel_rfl
  t24 := by kernel_rfl
  a24 := fun _ => by kernel_rfl
  z24 := fun _ => by kernel_rfl
  v24 := fun _ => by kernel_rfl
  i9 := by kernel_rfl
theorem ins_get (ts : List ByteArray) (name : ByteArray) (i : Nat) (hi : i ≤ ts.length) (j : Nat) : (ts.take i ++ name :: ts.drop i).getD j ByteArray.empty = if j < i then tv ts j else if j = i then name else tv ts (j - 1) := by
  have hl : (ts.take i).length = i := by simp; omega
  rw [List.getD_eq_getElem?_getD, List.getElem?_append, hl]
  split
  · next h => rw [List.getElem?_take_of_lt h]; simp [tv]
  · next h =>
    split
    · next h2 => subst h2; simp
    · next h2 =>
      obtain ⟨k, rfl⟩ : ∃ k, j = i + 1 + k := ⟨j - (i + 1), by omega⟩
      rw [show i + 1 + k - i = k + 1 by omega, List.getElem?_cons_succ, List.getElem?_drop, show i + 1 + k - 1 = i + k by omega]
      simp [tv]
theorem grown_far {A B : World} {o : Option Nat} (h : A.grownBy B o) {b : Nat} (hb : A.heap.size ≤ b) (i : Nat) (vs : List Value) : A.grownBy (B.setCells b i vs) o :=
  have hg := grown_setCells b vs i B
  ⟨hg.os.trans h.os, hg.tape.trans h.tape, hg.output.trans h.output, Nat.le_trans h.size hg.size, fun k hk hn => (hg.block k (Nat.lt_of_lt_of_le hk h.size) (fun e => by have := Option.some.inj e; omega)).trans (h.block k hk hn)⟩
theorem insertRow_any (v : Value) (i B vb : Nat) (ts : List ByteArray) (name : ByteArray) (w : World) (hr : w.ownsRow B 9 1 v ts.length (ts.map Value.string)) (hi : i ≤ ts.length) (hts : ts.length ≤ 1048576) (hv : w.heap[vb]? = some (.cells #[.string name] 9 (0, 0))) (hne : v.ownBlock ≠ some vb) :
    Calls Tryz.prog 78 #[v, .int .i64 i, .slice (some ⟨vb, 0, none⟩) 1 1] w fun e w' => ∃ v', e = .returned v' ∧ Reads w' v' (ts.take i ++ name :: ts.drop i) ∧ (∀ b, v'.ownBlock = some b → v.ownBlock = some b ∨ w.heap.size ≤ b) ∧ w.grownBy w' v.ownBlock := by
  have hl : (ts.take i ++ name :: ts.drop i).length = ts.length + 1 := by simp; omega
  have hcs : (ts.map Value.string).length = ts.length := by simp
  have h1c : ∀ x ∈ ts.map Value.string, x.oneCell' = true := fun x hx => by obtain ⟨y, _, rfl⟩ := List.mem_map.1 hx; rfl
  have h1v : ∀ x ∈ [Value.string name], x.oneCell' = true := fun x hx => by rw [List.mem_singleton.1 hx]; rfl
  have hvs : ∀ (j : Nat) (x : Value), [Value.string name][j]? = some x → w.cell? ⟨vb, 0 + j, none⟩ = some x := fun j x hj => by
    have : j = 0 := by
      by_cases h : j = 0
      · exact h
      · rw [List.getElem?_eq_none (by simp; omega)] at hj; cases hj
    subst this
    simp at hj
    subst hj
    simp [World.cell?, hv]
  have hzc : ((Value.string ⟨#[]⟩).cells).size = 1 := rfl
  have hdd : Below w.heap.size w w.drew := below_drewN (Below.refl _ _) 1
  rcases hr with ⟨h0, ⟨rfl, hn⟩ | ⟨g, cap, cur, rfl, hB, hcur, hnc, hmc, hsz, htk⟩⟩
  · have e1 : ts = [] := List.eq_nil_of_length_eq_zero hn
    subst e1
    have : i = 0 := by simpa using hi
    subst this
    have h := Any2.slices_Insert_string_end_grow nLays none 0 0 vb 0 1 1 [] [Value.string name] w (by omega) (by omega) (by omega) (by omega) rfl rfl (fun _ => rfl) (fun _ e => by cases e) hvs h1v
    refine h.mono ?_
    rintro e w' ⟨rfl, rfl⟩
    refine ⟨_, rfl, .inr ⟨w.heap.size, 0, _, rfl, ?_, ?_⟩, fun b e => .inr (by cases e; exact Nat.le_refl _), grown_same (grown_below' hdd) (World.grownBy_alloc _ _ _)⟩
    · rw [World.size_alloc]; exact Nat.lt_succ_self _
    · intro j hj
      have : j = 0 := by simpa using hj
      subst this
      have hc := World.cell?_alloc_new w.drew (([] ++ [Value.string name]).toArray ++ Builtin.zeroCells (Value.string ⟨#[]⟩).cells (grownCap w (0 + 1) 0 (nRen.t 9) - (0 + 1))) (nRen.t 9) 0
      refine Eq.trans (Eq.trans ?_ hc) (by rw [Array.getElem?_append_left (by simp)]; simp)
      rfl
  have hr : w.ownsRow B 9 1 (.slice (some ⟨g, 0, none⟩) ts.length cap) ts.length (ts.map Value.string) := ⟨h0, .inr ⟨g, cap, cur, rfl, hB, hcur, hnc, hmc, hsz, htk⟩⟩
  have hgv : vb ≠ g := fun e => hne (by rw [e]; rfl)
  have hlt := (hr.lt g rfl).2
  have hcm : cap ≤ 9223372036854775807 := by unfold maxLen at hmc; omega
  have hcell : ∀ j, j < ts.length → w.cell? ⟨g, 0 + j, none⟩ = some (.string (tv ts j)) := fun j hj => by
    rw [Nat.zero_add, hr.cellAt j (by omega)]
    simp [tv, hj]
  have hcell2 : ∀ (j : Nat) (x : Value), (ts.map Value.string)[j]? = some x → w.cell? ⟨g, 0 + j, none⟩ = some x := fun j x hj => by
    rw [Nat.zero_add, ← hj]
    have : j < ts.length := by
      by_cases h : j < ts.length
      · exact h
      · rw [List.getElem?_eq_none (by simp; omega)] at hj; cases hj
    exact hr.cellAt j (by omega)
  have hspare : ∀ j, j < cap → (w.cell? ⟨g, 0 + j, none⟩).isSome = true := fun j hj => by
    have : j < cur.size := by omega
    simp [World.cell?, hcur, this]
  have hfz : ∀ j, w.frozen? ⟨g, 0 + j, none⟩ = false := fun j => hr.frozenAt _
  by_cases hroom : ts.length + 1 ≤ cap
  · by_cases hin : i < ts.length
    · have h := Any2.slices_Insert_string_shift nLays g 0 ts.length cap i vb 0 1 1 (ts.map Value.string) [Value.string name] w hin (by omega) hroom hcm hgv hcs rfl hcell2 (fun j hj => hspare j (by omega)) (fun j _ => hfz j) hvs h1c h1v 9 9 1 cap (by simp [World.shape?, hv]) (by simp [World.shape?, hcur, hsz]) (by omega) (by simp [World.frozen?, hv]) (by simp [World.frozen?, hv])
      refine h.mono ?_
      rintro e w' ⟨rfl, rfl⟩
      have hg : w.grownBy ((w.drew.setCells g (0 + (i + 1)) ((ts.map Value.string).drop i)).setCells g (0 + i) [Value.string name]) (some g) := grown_same (grown_below' hdd) (grown_same (grown_setCells g _ _ _) (grown_setCells g _ _ _))
      refine ⟨_, rfl, .inr ⟨g, 0, cap, by rw [hl], Nat.lt_of_lt_of_le hlt hg.size, fun j hj => ?_⟩, fun b e => .inl e, hg⟩
      rw [hl] at hj
      rw [ins_get ts name i hi]
      have hd1 : ∀ k, k < ((ts.map Value.string).drop i).length → (w.drew.cell? ⟨g, 0 + (i + 1) + k, none⟩).isSome = true := fun k hk => by
        have := hspare (i + 1 + k) (by simp at hk; omega)
        rw [show 0 + (i + 1) + k = 0 + (i + 1 + k) by omega]
        exact this
      split
      · next h1 =>
        rw [World.cell?_setCells_out g _ _ _ _ (fun _ _ => .inl (by show 0 + j < 0 + i; omega)), World.cell?_setCells_out g _ _ _ _ (fun _ _ => .inl (by show 0 + j < 0 + (i + 1); omega))]
        exact hcell j (by omega)
      · next h1 =>
        split
        · next h2 =>
          subst h2
          have := World.cell?_setCells_in g [Value.string name] (0 + j) (w.drew.setCells g (0 + (j + 1)) ((ts.map Value.string).drop j)) (fun k hk => by
            have hk0 : k = 0 := by simpa using hk
            subst hk0
            rw [World.cell?_setCells_out g _ _ _ _ (fun _ _ => .inl (by show 0 + j + 0 < 0 + (j + 1); omega))]
            exact hspare j (by omega)) 0 (by simp)
          exact this
        · next h2 =>
          obtain ⟨k, rfl⟩ : ∃ k, j = i + 1 + k := ⟨j - (i + 1), by omega⟩
          rw [World.cell?_setCells_out g _ _ _ _ (fun _ _ => .inr (by show 0 + i + 1 ≤ 0 + (i + 1 + k); omega))]
          have := World.cell?_setCells_in g ((ts.map Value.string).drop i) (0 + (i + 1)) w.drew hd1 k (by simp; omega)
          rw [show 0 + (i + 1 + k) = 0 + (i + 1) + k by omega, this]
          have hk3 : i + k < ts.length := by omega
          rw [show i + 1 + k - 1 = i + k by omega]
          simp [tv, hk3]
    · have hin' : i = ts.length := by omega
      subst hin'
      have h := Any2.slices_Insert_string_end_room nLays g 0 ts.length cap vb 0 1 1 [Value.string name] w (by omega) hroom hcm rfl (fun j hj => by rw [Nat.add_assoc]; exact hspare _ (by omega)) (fun j _ => by rw [Nat.add_assoc]; exact hfz _) hvs h1v
      refine h.mono ?_
      rintro e w' ⟨rfl, rfl⟩
      have hg : w.grownBy (w.setCells g (0 + ts.length) [Value.string name]) (some g) := grown_setCells g _ _ _
      refine ⟨_, rfl, .inr ⟨g, 0, cap, by rw [hl], Nat.lt_of_lt_of_le hlt hg.size, fun j hj => ?_⟩, fun b e => .inl e, hg⟩
      rw [hl] at hj
      rw [ins_get ts name ts.length hi]
      split
      · next h1 =>
        rw [World.cell?_setCells_out g _ _ _ _ (fun _ _ => .inl (by show 0 + j < 0 + ts.length; omega))]
        exact hcell j h1
      · next h1 =>
        have hjn : j = ts.length := by omega
        subst hjn
        rw [if_pos rfl]
        exact World.cell?_setCells_in g [Value.string name] (0 + ts.length) w (fun k hk => by
          have hk0 : k = 0 := by simpa using hk
          subst hk0
          exact hspare ts.length (by omega)) 0 (by simp)
  · by_cases hin : i < ts.length
    · have h := Any2.slices_Insert_string_grow nLays g 0 ts.length cap i vb 0 1 1 (ts.map Value.string) [Value.string name] w hin (by omega) hnc (by omega) (by omega) hcs rfl hcell2 hvs h1c h1v
      refine h.mono ?_
      rintro e w' ⟨rfl, rfl⟩
      generalize hGC : grownCap w (ts.length + 1) cap (nRen.t 9) = gc
      generalize hAR : ((ts.map Value.string).take i).toArray ++ Builtin.zeroCells (Value.string ⟨#[]⟩).cells (ts.length + 1 - i) ++ Builtin.zeroCells (Value.string ⟨#[]⟩).cells (gc - (ts.length + 1)) = ar
      have har : ts.length + 1 ≤ ar.size := by
        rw [← hAR]
        simp [size_zeroCells, hzc]
        omega
      have ha0 : ∀ j, j < i → ar[j]? = some (.string (tv ts j)) := fun j hj => by
        rw [← hAR, Array.getElem?_append_left (by simp; omega), Array.getElem?_append_left (by simp; omega)]
        have : j < ts.length := by omega
        simp [tv, hj, this]
      have hA : w.grownBy (w.alloc (.cells ar (nRen.t 9))) (some g) := World.grownBy_alloc _ _ _
      have hA2 : w.grownBy (w.alloc (.cells ar (nRen.t 9))).drew (some g) := ⟨hA.os, hA.tape, hA.output, hA.size, hA.block⟩
      have hS1 : w.grownBy ((w.alloc (.cells ar (nRen.t 9))).drew.setCells w.heap.size i [Value.string name]) (some g) := grown_far hA2 (Nat.le_refl _) i [Value.string name]
      have hS2 : w.grownBy ((w.alloc (.cells ar (nRen.t 9))).drew.setCells w.heap.size i [Value.string name]).drew (some g) := ⟨hS1.os, hS1.tape, hS1.output, hS1.size, hS1.block⟩
      have hg := grown_far hS2 (Nat.le_refl _) (i + 1) ((ts.map Value.string).drop i)
      have hz : w.heap.size < (w.alloc (.cells ar (nRen.t 9))).heap.size := by rw [World.size_alloc]; exact Nat.lt_succ_self _
      have hsz5 : w.heap.size < ((((w.alloc (.cells ar (nRen.t 9))).drew.setCells w.heap.size i [Value.string name]).drew).setCells w.heap.size (i + 1) ((ts.map Value.string).drop i)).heap.size :=
        Nat.lt_of_lt_of_le hz (Nat.le_trans (grown_setCells w.heap.size [Value.string name] i (w.alloc (.cells ar (nRen.t 9))).drew).size (grown_setCells w.heap.size ((ts.map Value.string).drop i) (i + 1) ((w.alloc (.cells ar (nRen.t 9))).drew.setCells w.heap.size i [Value.string name]).drew).size)
      have hnew : ∀ j, (w.alloc (.cells ar (nRen.t 9))).drew.cell? ⟨w.heap.size, j, none⟩ = ar[j]? := fun j => World.cell?_alloc_new w ar (nRen.t 9) j
      have hd0 : ∀ k, k < [Value.string name].length → ((w.alloc (.cells ar (nRen.t 9))).drew.cell? ⟨w.heap.size, i + k, none⟩).isSome = true := fun k hk => by
        have hk0 : k = 0 := by simpa using hk
        subst hk0
        rw [hnew, Array.getElem?_eq_getElem (by omega)]; rfl
      have hd1 : ∀ k, k < ((ts.map Value.string).drop i).length → (((w.alloc (.cells ar (nRen.t 9))).drew.setCells w.heap.size i [Value.string name]).drew.cell? ⟨w.heap.size, i + 1 + k, none⟩).isSome = true := fun k hk => by
        show (((w.alloc (.cells ar (nRen.t 9))).drew.setCells w.heap.size i [Value.string name]).cell? ⟨w.heap.size, i + 1 + k, none⟩).isSome = true
        rw [World.cell?_setCells_out w.heap.size _ _ _ _ (fun _ _ => .inr (by show i + 1 ≤ i + 1 + k; omega)), hnew, Array.getElem?_eq_getElem (by simp at hk; omega)]; rfl
      refine ⟨_, rfl, .inr ⟨w.heap.size, 0, gc, by rw [hl], hsz5, fun j hj => ?_⟩, fun b e => .inr (by cases e; exact Nat.le_refl _), hg⟩
      rw [hl] at hj
      rw [ins_get ts name i hi, Nat.zero_add]
      split
      · next h1 =>
        rw [World.cell?_setCells_out w.heap.size _ _ _ _ (fun _ _ => .inl (by show j < i + 1; omega))]
        show ((w.alloc (.cells ar (nRen.t 9))).drew.setCells w.heap.size i [Value.string name]).cell? ⟨w.heap.size, j, none⟩ = _
        rw [World.cell?_setCells_out w.heap.size _ _ _ _ (fun _ _ => .inl (by show j < i; omega)), hnew]
        exact ha0 j h1
      · next h1 =>
        split
        · next h2 =>
          subst h2
          rw [World.cell?_setCells_out w.heap.size _ _ _ _ (fun _ _ => .inl (by show j < j + 1; omega))]
          exact World.cell?_setCells_in w.heap.size [Value.string name] j (w.alloc (.cells ar (nRen.t 9))).drew hd0 0 (by simp)
        · next h2 =>
          obtain ⟨k, rfl⟩ : ∃ k, j = i + 1 + k := ⟨j - (i + 1), by omega⟩
          have := World.cell?_setCells_in w.heap.size ((ts.map Value.string).drop i) (i + 1) ((w.alloc (.cells ar (nRen.t 9))).drew.setCells w.heap.size i [Value.string name]).drew hd1 k (by simp; omega)
          rw [this]
          have hk3 : i + k < ts.length := by omega
          rw [show i + 1 + k - 1 = i + k by omega]
          simp [tv, hk3]
    · have hin' : i = ts.length := by omega
      subst hin'
      have h := Any2.slices_Insert_string_end_grow nLays (some ⟨g, 0, none⟩) ts.length cap vb 0 1 1 (ts.map Value.string) [Value.string name] w (by omega) hnc (by omega) (by omega) hcs rfl (fun e => by cases e) (fun a e j x hj => by cases e; rw [Addr.add_lit]; exact hcell2 j x hj) hvs h1v
      refine h.mono ?_
      rintro e w' ⟨rfl, rfl⟩
      generalize hGC : grownCap w (ts.length + 1) cap (nRen.t 9) = gc
      refine ⟨_, rfl, .inr ⟨w.heap.size, 0, gc, by rw [hl], ?_, ?_⟩, fun b e => .inr (by cases e; exact Nat.le_refl _), grown_same (grown_below' hdd) (World.grownBy_alloc _ _ _)⟩
      · rw [World.size_alloc]; exact Nat.lt_succ_self _
      · intro j hj
        rw [hl] at hj
        rw [ins_get ts name ts.length hi, Nat.zero_add]
        have hc := World.cell?_alloc_new w.drew ((ts.map Value.string ++ [Value.string name]).toArray ++ Builtin.zeroCells (Value.string ⟨#[]⟩).cells (gc - (ts.length + 1))) (nRen.t 9) j
        refine Eq.trans (Eq.trans ?_ hc) ?_
        · rfl
        · rw [Array.getElem?_append_left (by simp; omega)]
          simp only [List.getElem?_toArray]
          rw [List.getElem?_append]
          split
          · next h1 =>
            have h1' : j < ts.length := by simpa using h1
            rw [if_pos h1']
            simp [tv, h1']
          · next h1 =>
            have hjn : j = ts.length := by simp at h1; omega
            subst hjn
            simp
end Go.Proofs.YtffpdgpcjgfgcaaGreatDoor
/- (*shelf).pin. -/
namespace Go.Proofs.YtffpdgpcjgfgcaaGreatDoor
open Go.RowKit
/-- What pin leaves. -/
def PinRes (w : World) (sb mb m : Nat) (D : DataW Unit) (wd room tot : Int) (vc : Value) (ts : List ByteArray) (name : ByteArray) (e : Ending) (w' : World) : Prop :=
  (e = .returned (.int .i64 1) ∧ ¬ ((name.size : Int) = wd) ∧ Below w.heap.size w w') ∨
  (e = .returned (.int .i64 2) ∧ (name.size : Int) = wd ∧ 10 < (addT name ts).length ∧ Below w.heap.size w w') ∨
  (e = .returned (.int .i64 0) ∧ (name.size : Int) = wd ∧ (addT name ts).length ≤ 10 ∧ ∃ vc', Blk w' sb 79 #[.int .i64 wd, .int .i64 room, .int .i64 tot, .map (some mb), vc'] ∧ Reads w' vc' (addT name ts) ∧ w'.ownsMap Tryz.prog 9 itemElem mb m D ∧ w.heap.size ≤ w'.heap.size ∧ ∀ B', B' ≤ sb → (∀ g, vc.ownBlock = some g → B' ≤ g) → B' ≤ w.heap.size → Below B' w w')
theorem reads_far {w w' : World} {v : Value} {ts : List ByteArray} {b : Nat} (h : Reads w v ts) (hg : w.grownBy w' (some b)) (hn : v.ownBlock ≠ some b) : Reads w' v ts := by
  rcases h with h | ⟨c, off, cap, rfl, hl, hc⟩
  · exact .inl h
  · exact .inr ⟨c, off, cap, rfl, Nat.lt_of_lt_of_le hl hg.size, fun j hj => (hg.cell_far ⟨c, off + j, none⟩ hl (fun e => hn e)).trans (hc j hj)⟩
theorem addT_len (name : ByteArray) (ts : List ByteArray) (h : ¬ (cutN name ts < ts.length ∧ tv ts (cutN name ts) = name)) : addT name ts = ts.take (cutN name ts) ++ name :: ts.drop (cutN name ts) ∧ (addT name ts).length = ts.length + 1 := by
  have e : addT name ts = ts.take (cutN name ts) ++ name :: ts.drop (cutN name ts) := by rw [addT, if_neg h]
  refine ⟨e, ?_⟩
  rw [e]
  have := cutN_le name ts
  simp
  omega
set_option maxRecDepth 100000 in
set_option maxHeartbeats 1000000 in
theorem pin_any (sb mb m B : Nat) (D : DataW Unit) (wd room tot : Int) (vc : Value) (ts : List ByteArray) (name : ByteArray) (w : World) (hbox : Blk w sb 79 #[.int .i64 wd, .int .i64 room, .int .i64 tot, .map (some mb), vc]) (hmap : w.ownsMap Tryz.prog 9 itemElem mb m D) (hrow : w.ownsRow B 9 1 vc ts.length (ts.map Value.string)) (hne : sb ≠ mb) (hns : vc.ownBlock ≠ some sb) (hnm : vc.ownBlock ≠ some mb) (hA : Asc ts) (hl : ts.length ≤ 10) :
    Calls Tryz.prog 63 #[.pointer (some ⟨sb, 0, none⟩), .string name] w fun e w' => PinRes w sb mb m D wd room tot vc ts name e w' := by
  obtain ⟨ac, cc, rfl, _⟩ := row_form hrow
  have c0 : w.cell? ⟨sb, 0, none⟩ = some (.int .i64 wd) := hbox.cell 0
  have c4 : w.cell? ⟨sb, 4, none⟩ = some (.slice ac ts.length cc) := hbox.cell 4
  by_cases hsz : (name.size : Int) = wd
  case neg =>
    go_enter Tryz.func63, Tryz.ntmps63
    go_wp2
    go_ret
    exact .inl ⟨rfl, hsz, Below.refl _ _⟩
  have hkl := cutN_le name ts
  have HBX := hid hbox
  have HMP := hid hmap
  have HRW := hid hrow
  have HA := hid hA
  have d4 : ∀ n, (w.drewN n).cell? ⟨sb, 4, none⟩ = some (.slice ac ts.length cc) := fun n => c4
  have HSE : Hid (Calls Tryz.prog 77 #[.slice ac ts.length cc, .string name] w fun e w' => ∃ q : Bool, e = .returned (.tuple #[.int .i64 (cutN name ts), .bool q]) ∧ (q = true ↔ cutN name ts < ts.length ∧ tv ts (cutN name ts) = name) ∧ ∃ n, w' = w.drewN n) := by
    rcases hrow with ⟨_, ⟨e0, h0⟩ | ⟨g, cap, cur, e0, hg1, hg2, hnc, hmc, _⟩⟩
    · have e1 : ts = [] := List.eq_nil_of_length_eq_zero h0
      subst e1
      simp at e0
      obtain ⟨rfl, rfl⟩ := e0
      refine (search_none _ _ _ _).mono ?_
      rintro e w' ⟨rfl, rfl⟩
      exact ⟨false, by simp [cutN], by simp, 0, rfl⟩
    · cases e0
      refine (search_any g 0 cc ts name w hA (by omega) (fun j hj => by rw [Nat.zero_add, HRW.out.cellAt j (by omega)]; simp [tv, hj])).mono ?_
      rintro e w1 ⟨⟨q, rfl, hq⟩, n, rfl⟩
      exact ⟨q, rfl, hq, n, rfl⟩
  by_cases hin : cutN name ts < ts.length ∧ tv ts (cutN name ts) = name
  · have HAT : Hid (addT name ts = ts) := by show addT name ts = ts; rw [addT, if_pos hin]
    generalize cutN name ts = k at *
    clear hbox hmap hA hrow
    go_enter Tryz.func63, Tryz.ntmps63
    go_wp2_with fail
    refine HSE.out.mono ?_
    rintro e w1 ⟨q, rfl, hq, n, rfl⟩
    have hqt : q = true := hq.2 hin
    subst hqt
    clear hq hin
    go_wp2
    go_ret
    have bl : ∀ B', Below B' w (w.drewN n) := fun B' => below_drewN (Below.refl B' w) n
    refine .inr (.inr ⟨rfl, hsz, by rw [HAT.out]; exact hl, _, HBX.out.below (bl _), ?_, World.ownsMap.kept (w' := w.drewN n) HMP.out (grown_of_below (bl _)) (by simp), (bl 0).size, fun B' _ _ _ => bl B'⟩)
    rw [HAT.out]
    exact (Reads.of_row HRW.out).below (bl _)
  have HAT := hid (addT_len name ts hin)
  by_cases h10 : ts.length = 10
  · generalize cutN name ts = k at *
    have HL : Hid (10 < (addT name ts).length) := by show 10 < (addT name ts).length; rw [HAT.out.2]; omega
    have h10b : ((ts.length : Int) == 10) = true := by simp [h10]
    have HIN2 := hid hin
    clear hbox hmap hA hrow h10 hkl hl hin HAT HRW
    generalize ts.length = tl at *
    go_enter Tryz.func63, Tryz.ntmps63
    go_wp2_with fail
    refine HSE.out.mono ?_
    rintro e w1 ⟨q, rfl, hq, n, rfl⟩
    have hqf : q = false := by cases q; rfl; exact absurd (hq.1 rfl) HIN2.out
    subst hqf
    clear hq
    go_wp2
    go_ret
    exact .inr (.inl ⟨rfl, hsz, HL.out, below_drewN (Below.refl _ _) _⟩)
  have HIN := hid fun (W : World) vb a b c => insertRow_any (.slice ac ts.length cc) (cutN name ts) B vb ts name W a hkl (by omega) b c
  generalize cutN name ts = k at *
  clear hbox hmap hA hrow
  have h10' : ¬ ((ts.length : Int) = 10) := by omega
  go_enter Tryz.func63, Tryz.ntmps63
  go_wp2_with fail
  refine HSE.out.mono ?_
  rintro e w1 ⟨q, rfl, hq, n, rfl⟩
  have hqf : q = false := by cases q; rfl; exact absurd (hq.1 rfl) hin
  subst hqf
  clear hq
  have HRWn : Hid (∀ o, ((w.drewN n).alloc o).ownsRow B 9 1 (.slice ac ts.length cc) ts.length (ts.map Value.string)) := fun o => (Below.row (below_drewN (Below.refl _ w) n) HRW.out).alloc o
  have HNE : Hid ((Value.slice ac ts.length cc).ownBlock ≠ some w.heap.size) := fun e => by have := (HRW.out.lt _ e).2; omega
  have HNW := hid (Blk.new (w.drewN n) 9 #[.string name])
  have hdsz : (w.drewN n).heap.size = w.heap.size := rfl
  go_wp2_with fail
  refine (HIN.out _ _ (HRWn.out _) HNW.out HNE.out).mono ?_
  rintro e w2 ⟨v2, rfl, hrd, hob, hg⟩
  obtain ⟨a2, c2, rfl, _⟩ := hrd.form
  have hslt : sb < w.heap.size := HBX.out.lt
  have X2 := ((show Blk (w.drewN n) sb 79 _ from HBX.out).alloc (.cells #[.string name] 9)).kept hg (fun e => hns e.symm)
  have M2 := ((World.ownsMap.kept (w' := w.drewN n) HMP.out (grown_of_below (below_drewN (Below.refl _ w) n)) (by simp)).alloc (.cells #[.string name] 9)).kept hg (fun e => hnm e.symm)
  have q4 := X2.cell 4
  have f4 := X2.fz 4
  have hob2 : (Value.slice a2 (ts.take k ++ name :: ts.drop k).length c2).ownBlock ≠ some sb := fun e => by
    rcases hob _ e with h | h
    · exact hns h
    · have : w.heap.size + 1 ≤ sb := by simpa using h
      omega
  have gU := grownBy_setCellAt w2 sb 4 (.slice a2 (ts.take k ++ name :: ts.drop k).length c2)
  have X3 := hid (X2.set 4 (.slice a2 (ts.take k ++ name :: ts.drop k).length c2))
  have M3 := hid (M2.kept gU (fun e => hne (Option.some.inj e).symm))
  have hrd3 := hid (reads_far hrd gU hob2)
  have hsz2 := gU.size
  have hsz3 := hg.size
  rw [World.size_alloc] at hsz3
  have HBB : Hid (∀ B', B' ≤ sb → (∀ g', (Value.slice ac ts.length cc).ownBlock = some g' → B' ≤ g') → B' ≤ w.heap.size → Below B' w (w2.setCell ⟨sb, 4, none⟩ (.slice a2 (ts.take k ++ name :: ts.drop k).length c2))) := fun B' h1 h2 h3 =>
    (((below_drewN (Below.refl B' w) n).alloc h3 _).grown hg (by rw [World.size_alloc]; omega) h2).setCell (p := ⟨sb, 4, none⟩) h1 _
  have HAT2 := hid HAT.out.1
  have HAT3 := hid HAT.out.2
  clear hg hrd X2 M2 gU hob hob2
  generalize ts.take k ++ name :: ts.drop k = ts9 at *
  go_wp2
  go_ret
  refine .inr (.inr ⟨rfl, hsz, by rw [HAT3.out]; omega, _, X3.out, by rw [HAT2.out]; exact hrd3.out, M3.out, by omega, HBB.out⟩)
end Go.Proofs.YtffpdgpcjgfgcaaGreatDoor
/- impl.Pin. -/
namespace Go.Proofs.YtffpdgpcjgfgcaaGreatDoor
open Go.RowKit
theorem addT_mem {name : ByteArray} {ts : List ByteArray} {x : ByteArray} (h : x ∈ addT name ts) : x = name ∨ x ∈ ts := by
  unfold addT at h
  split at h
  · exact .inr h
  · rcases List.mem_append.1 h with h | h
    · exact .inr (List.mem_of_mem_take h)
    · rcases List.mem_cons.1 h with h | h
      · exact .inl h
      · exact .inr (List.mem_of_mem_drop h)
theorem addT_size {name : ByteArray} {ts : List ByteArray} {n : Nat} (hn : name.size ≤ n) (h : ∀ i, (tv ts i).size ≤ n) (i : Nat) : (tv (addT name ts) i).size ≤ n := by
  by_cases hi : i < (addT name ts).length
  · have hm : tv (addT name ts) i ∈ addT name ts := by simp [tv, hi]
    rcases addT_mem hm with e | e
    · rw [e]; exact hn
    · obtain ⟨k, hk, he⟩ := List.getElem_of_mem e
      have := h k
      rw [show tv ts k = tv (addT name ts) i by rw [← he]; simp [tv, hk]] at this
      exact this
  · have : tv (addT name ts) i = ByteArray.empty := by simp only [tv]; rw [List.getD_eq_getElem?_getD, List.getElem?_eq_none (by omega)]; rfl
    rw [this]; simp
end Go.Proofs.YtffpdgpcjgfgcaaGreatDoor
/- What Save makes of a store. -/
namespace Go.Proofs.YtffpdgpcjgfgcaaGreatDoor
open Go.RowKit
theorem addT_eq (s : ByteArray) (ts : List ByteArray) : addT s ts = putT s ts := rfl
theorem okSums_of {n : Int} {ts : List ByteArray} (hA : Asc ts) (hs : ∀ t ∈ ts, (t.size : Int) = n) : okSums n ts := fun i hi => by
  refine ⟨hs _ ?_, fun h0 => ?_⟩
  · simp [tv, hi]
  · have h := (List.pairwise_iff_getElem.1 hA) (i - 1) i (by omega) hi (by omega)
    have e1 : tv ts (i - 1) = ts[i - 1]'(by omega) := by simp [tv, show i - 1 < ts.length by omega]
    have e2 : tv ts i = ts[i] := by simp [tv, hi]
    rw [e1, e2]; exact h
theorem ValidSt.pinned {wd room : Int} {its : Itms} {ts : List ByteArray} {s : ByteArray} (h : ValidSt wd room its ts) (hs : (s.size : Int) = wd) (hl : (addT s ts).length ≤ 10) : ValidSt wd room its (addT s ts) where
  width := h.width
  room0 := h.room0
  room1 := h.room1
  items := h.items
  pins := hl
  each := h.each
  sums := okSums_of (by rw [addT_eq]; exact putT_asc (okSums_asc h.sums)) fun t ht => (addT_mem ht).elim (fun e => by rw [e]; exact hs) (okSums_size h.sums t)
  fits := h.fits
theorem itemOk_of {wd : Int} {its : Itms} (hA : AscI wd its) (hm : ∀ p ∈ its, (1 ≤ p.1.size ∧ p.1.size ≤ 7000) ∧ (0 ≤ p.2 ∧ p.2 ≤ 1000000)) : ∀ i, i < its.length → itemOk wd its i := fun i hi => by
  have h1 := hm its[i] (List.getElem_mem hi)
  rw [← itx_get its i hi, ← itu_get its i hi] at h1
  refine ⟨h1.1, h1.2, fun h0 => ?_⟩
  have h := (List.pairwise_iff_getElem.1 hA) (i - 1) i (by simp; omega) (by simpa using hi) (by omega)
  rw [List.getElem_map, List.getElem_map, ← itx_get its i hi, ← itx_get its (i - 1) (by omega)] at h
  exact h
theorem PutI.valid {wd room : Int} {its : Itms} {ts : List ByteArray} {Q : ByteArray → Prop} {t : ByteArray} {now : Int} {a : Itms} (h : ValidSt wd room its ts) (hp : Puts t now) (hi : PutI wd room Q its t now 0 a) : ValidSt wd room a ts where
  width := h.width
  room0 := h.room0
  room1 := h.room1
  items := by
    cases hi with
    | there i hi hs ht => rw [List.length_set]; exact h.items
    | put k b hn hw hf => rw [ins_len]; have := hf.2; omega
  pins := h.pins
  each := by
    refine itemOk_of (hi.asc (ascI_of h.each)) fun p hpa => ?_
    rcases hi.mem p hpa with rfl | hm
    · exact hp
    · obtain ⟨i, hi, rfl⟩ := List.getElem_of_mem hm
      have h1 := h.each i hi
      unfold itemOk at h1
      rw [itx_get its i hi, itu_get its i hi] at h1
      exact ⟨h1.1, h1.2.1⟩
  sums := h.sums
  fits := by
    cases hi with
    | there i hi hs ht => rw [set_tot its i t now hi ht]; exact h.fits
    | put k b hn hw hf => rw [ins_tot]; have := hf.1; omega
/-- The texts put in one behind another, so many of them. -/
inductive PutTo (wd room : Int) (ts : List ByteArray) (now : Int) (its : Itms) (xs : List ByteArray) : Nat → Itms → Prop where
  | zero : PutTo wd room ts now its xs 0 its
  | step {k : Nat} {a b : Itms} (h : PutTo wd room ts now its xs k a) (hk : k < xs.length) (hp : Puts (tv xs k) now) (hi : PutI wd room (NeedTo wd a ts ts.length) a (tv xs k) now 0 b) : PutTo wd room ts now its xs (k + 1) b
theorem PutTo.valid {wd room : Int} {ts : List ByteArray} {now : Int} {its : Itms} {xs : List ByteArray} {k : Nat} {a : Itms} (h : PutTo wd room ts now its xs k a) (hv : ValidSt wd room its ts) : ValidSt wd room a ts := by
  induction h with
  | zero => exact hv
  | step h hk hp hi ih => exact hi.valid ih hp
theorem PutTo.uniq {wd room : Int} {ts : List ByteArray} {now : Int} {its : Itms} {xs : List ByteArray} (hv : ValidSt wd room its ts) : ∀ {k : Nat} {a b : Itms}, PutTo wd room ts now its xs k a → PutTo wd room ts now its xs k b → a = b
  | 0, _, _, .zero, .zero => rfl
  | k + 1, _, _, .step h hk hp hi, .step h' hk' hp' hi' => by
    obtain rfl := PutTo.uniq hv h h'
    exact (hi.uniq (ascI_of (h.valid hv).each).lt hi').2
theorem PutTo.cut {wd room : Int} {ts : List ByteArray} {now : Int} {its : Itms} {xs : List ByteArray} {k : Nat} {a : Itms} (h : PutTo wd room ts now its xs k a) : ∀ j, j < k → ∃ c d, PutTo wd room ts now its xs j c ∧ Puts (tv xs j) now ∧ PutI wd room (NeedTo wd c ts ts.length) c (tv xs j) now 0 d := by
  induction h with
  | zero => intro j hj; omega
  | step h hk hp hi ih =>
    rename_i k c d
    intro j hj
    by_cases e : j = k
    · subst e; exact ⟨c, d, h, hp, hi⟩
    · exact ih j (by omega)
/-- One of the texts that is not put in, and its code. -/
def PutNo (wd room : Int) (ts : List ByteArray) (now : Int) (a : Itms) (t : ByteArray) (code : Int) : Prop :=
  (¬ Puts t now ∧ code = 1) ∨ (Puts t now ∧ code ≠ 0 ∧ ∃ b, PutI wd room (NeedTo wd a ts ts.length) a t now code b)
theorem PutNo.uniq {wd room : Int} {ts : List ByteArray} {now : Int} {a : Itms} {t : ByteArray} {c d : Int} (hv : ValidSt wd room a ts) (h : PutNo wd room ts now a t c) (k : PutNo wd room ts now a t d) : c = d := by
  rcases h with ⟨h1, rfl⟩ | ⟨h1, _, b, h2⟩ <;> rcases k with ⟨k1, rfl⟩ | ⟨k1, _, b', k2⟩
  · rfl
  · exact absurd k1 h1
  · exact absurd h1 k1
  · exact (h2.uniq (ascI_of hv.each).lt k2).1
theorem PutNo.not {wd room : Int} {ts : List ByteArray} {now : Int} {a : Itms} {t : ByteArray} {c : Int} {b : Itms} (hv : ValidSt wd room a ts) (h : PutNo wd room ts now a t c) (hp : Puts t now) (hi : PutI wd room (NeedTo wd a ts ts.length) a t now 0 b) : False := by
  rcases h with ⟨h1, _⟩ | ⟨_, hc, b', h2⟩
  · exact h1 hp
  · exact hc (h2.uniq (ascI_of hv.each).lt hi).1
/-- What comes of the texts: all put in, or the code of the first that is not. -/
def PutsR (wd room : Int) (ts : List ByteArray) (now : Int) (its : Itms) (xs : List ByteArray) (code : Int) (b : Itms) : Prop :=
  (code = 0 ∧ PutTo wd room ts now its xs xs.length b) ∨ (code ≠ 0 ∧ b = [] ∧ ∃ k a, k < xs.length ∧ PutTo wd room ts now its xs k a ∧ PutNo wd room ts now a (tv xs k) code)
theorem PutNo.ne {wd room : Int} {ts : List ByteArray} {now : Int} {a : Itms} {t : ByteArray} {c : Int} (h : PutNo wd room ts now a t c) : c ≠ 0 := by
  rcases h with ⟨_, rfl⟩ | ⟨_, h, _⟩
  · decide
  · exact h
theorem PutsR.uniq {wd room : Int} {ts : List ByteArray} {now : Int} {its : Itms} {xs : List ByteArray} {c d : Int} {a b : Itms} (hv : ValidSt wd room its ts) (h : PutsR wd room ts now its xs c a) (k : PutsR wd room ts now its xs d b) : c = d ∧ a = b := by
  rcases h with ⟨rfl, h⟩ | ⟨hc, rfl, i, x, hi, hx, hn⟩ <;> rcases k with ⟨rfl, k⟩ | ⟨kc, rfl, j, y, hj, hy, kn⟩
  · exact ⟨rfl, h.uniq hv k⟩
  · obtain ⟨c1, d1, h1, h2, h3⟩ := h.cut j hj
    obtain rfl := h1.uniq hv hy
    exact (kn.not (h1.valid hv) h2 h3).elim
  · obtain ⟨c1, d1, h1, h2, h3⟩ := k.cut i hi
    obtain rfl := h1.uniq hv hx
    exact (hn.not (h1.valid hv) h2 h3).elim
  · rcases Nat.lt_trichotomy i j with e | e | e
    · obtain ⟨c1, d1, h1, h2, h3⟩ := hy.cut i e
      obtain rfl := h1.uniq hv hx
      exact (hn.not (h1.valid hv) h2 h3).elim
    · subst e
      obtain rfl := hx.uniq hv hy
      exact ⟨hn.uniq (hx.valid hv) kn, rfl⟩
    · obtain ⟨c1, d1, h1, h2, h3⟩ := hx.cut j e
      obtain rfl := h1.uniq hv hy
      exact (kn.not (h1.valid hv) h2 h3).elim
theorem pin_small {wd : Int} {ts : List ByteArray} (h : okSums wd ts) (hw : wd ≤ 8) (i : Nat) : (tv ts i).size ≤ 1048576 := by
  by_cases hi : i < ts.length
  · have := (h i hi).1; omega
  · simp only [tv]; rw [List.getD_eq_getElem?_getD, List.getElem?_eq_none (by omega)]; simp
theorem item_small {wd : Int} {its : Itms} (h : ∀ i, i < its.length → itemOk wd its i) (i : Nat) : (itx its i).size ≤ 1048576 := by
  by_cases hi : i < its.length
  · have := (h i hi).1.2; omega
  · simp only [itx]; rw [List.getD_eq_getElem?_getD, List.getElem?_eq_none (by omega)]; show (0 : Nat) ≤ _; omega
theorem form_small (s : ByteArray) (m : Int) : (formR (descN s m) (descS s m) m).size ≤ 1048576 := by
  unfold formR
  split
  · next h =>
    unfold okL at h
    simp only [Bool.and_eq_true, decide_eq_true_eq, List.all_eq_true] at h
    obtain ⟨hw, hn, hl, hall⟩ := h
    have hm8 : 1 ≤ m ∧ m ≤ 8 := by simpa [isW] using hw
    show (formL (descN s m).toNat (descS s m)).toArray.size ≤ 1048576
    rw [List.size_toArray]
    have h1 := rowsL_len 8 (descS s m) (fun x hx => by have := hall x hx; omega)
    have h2 := decB_len4 (descN s m).toNat (by omega)
    have h5 : (descS s m).length * (2 * 8 + 1) ≤ 375 * 17 := Nat.mul_le_mul hl (by omega)
    unfold formL headL
    simp only [List.length_append, List.length_cons, List.length_nil]
    omega
  · simp [ByteArray.size]
/-- The texts of a thing: its list, and its pieces. -/
def saveX (s : ByteArray) (wd : Int) : List ByteArray := formR (descN s wd) (descS s wd) wd :: piecesOf s
theorem saveX_piece {s : ByteArray} {wd : Int} {pre : List ByteArray} {x : ByteArray} (h : (pre ++ [x]) <+: piecesOf s) : tv (saveX s wd) (pre.length + 1) = x ∧ pre.length + 1 < (saveX s wd).length ∧ x.size ≤ 3000 := by
  have hm : x ∈ piecesOf s := h.subset (by simp)
  obtain ⟨r, hr⟩ := h
  refine ⟨?_, ?_, piecesOf_size s x hm⟩
  · unfold saveX
    rw [← hr]
    simp [tv]
  · unfold saveX
    rw [← hr]
    simp
/-- What save makes of a valid store. -/
def SaveS (wd room : Int) (its : Itms) (ts : List ByteArray) (s : ByteArray) (now : Int) (code : Int) (b : Itms) : Prop :=
  (¬ ((nameB s wd).size : Int) = wd ∧ code = 1 ∧ b = []) ∨
  (((nameB s wd).size : Int) = wd ∧ 10 < (addT (nameB s wd) ts).length ∧ code = 2 ∧ b = []) ∨
  (((nameB s wd).size : Int) = wd ∧ (addT (nameB s wd) ts).length ≤ 10 ∧ PutsR wd room (addT (nameB s wd) ts) now its (saveX s wd) code b)
theorem SaveS.uniq {wd room : Int} {its : Itms} {ts : List ByteArray} {s : ByteArray} {now c d : Int} {a b : Itms} (hv : ValidSt wd room its ts) (h : SaveS wd room its ts s now c a) (k : SaveS wd room its ts s now d b) : c = d ∧ a = b := by
  rcases h with ⟨h1, rfl, rfl⟩ | ⟨h1, h2, rfl, rfl⟩ | ⟨h1, h2, h3⟩ <;> rcases k with ⟨k1, rfl, rfl⟩ | ⟨k1, k2, rfl, rfl⟩ | ⟨k1, k2, k3⟩
  · exact ⟨rfl, rfl⟩
  · exact absurd k1 h1
  · exact absurd k1 h1
  · exact absurd h1 k1
  · exact ⟨rfl, rfl⟩
  · omega
  · exact absurd h1 k1
  · omega
  · exact h3.uniq (hv.pinned h1 h2) k3
theorem SaveS.valid {wd room : Int} {its : Itms} {ts : List ByteArray} {s : ByteArray} {now : Int} {b : Itms} (hv : ValidSt wd room its ts) (h : SaveS wd room its ts s now 0 b) : ValidSt wd room b (addT (nameB s wd) ts) := by
  rcases h with ⟨_, h, _⟩ | ⟨_, _, h, _⟩ | ⟨h1, h2, ⟨_, h⟩ | ⟨h, _⟩⟩
  · cases h
  · cases h
  · exact h.valid (hv.pinned h1 h2)
  · exact absurd rfl h
/-- What may be saved. -/
def Saves (wd room : Int) (its : Itms) (ts : List ByteArray) (s : ByteArray) (now : Int) : Prop := ValidSt wd room its ts ∧ s.size ≤ 3000 ∧ (0 ≤ now ∧ now ≤ 1000000)
/-- What Save answers. -/
def SaveR (wd room : Int) (its : Itms) (ts : List ByteArray) (s : ByteArray) (now : Int) (wd' room' : Int) (its' : Itms) (ts' : List ByteArray) (code : Int) : Prop :=
  (¬ Saves wd room its ts s now ∧ wd' = 0 ∧ room' = 0 ∧ its' = [] ∧ ts' = [] ∧ code = 1) ∨
  (Saves wd room its ts s now ∧ ∃ c b, SaveS wd room its ts s now c b ∧ code = c ∧ ((c ≠ 0 ∧ wd' = 0 ∧ room' = 0 ∧ its' = [] ∧ ts' = []) ∨ (c = 0 ∧ wd' = wd ∧ room' = room ∧ its' = b ∧ ts' = addT (nameB s wd) ts)))
theorem save_same {wd room : Int} {its : Itms} {ts : List ByteArray} {s : ByteArray} {now w1 r1 w2 r2 : Int} {i1 i2 : Itms} {t1 t2 : List ByteArray} {b1 b2 : Int} (h : SaveR wd room its ts s now w1 r1 i1 t1 b1) (k : SaveR wd room its ts s now w2 r2 i2 t2 b2) : w1 = w2 ∧ r1 = r2 ∧ i1 = i2 ∧ t1 = t2 ∧ b1 = b2 := by
  rcases h with ⟨hn, rfl, rfl, rfl, rfl, rfl⟩ | ⟨ho, c, a, hp, rfl, h⟩ <;> rcases k with ⟨kn, rfl, rfl, rfl, rfl, rfl⟩ | ⟨ko, c', a', kp, rfl, k⟩
  · exact ⟨rfl, rfl, rfl, rfl, rfl⟩
  · exact absurd ko hn
  · exact absurd ho kn
  · obtain ⟨rfl, rfl⟩ := hp.uniq ho.1 kp
    rcases h with ⟨hc, rfl, rfl, rfl, rfl⟩ | ⟨hc, rfl, rfl, rfl, rfl⟩ <;> rcases k with ⟨kc, rfl, rfl, rfl, rfl⟩ | ⟨kc, rfl, rfl, rfl, rfl⟩
    · exact ⟨rfl, rfl, rfl, rfl, rfl⟩
    · exact absurd kc hc
    · exact absurd hc kc
    · exact ⟨rfl, rfl, rfl, rfl, rfl⟩
theorem save_len {wd room : Int} {its : Itms} {ts : List ByteArray} {s : ByteArray} {now w1 r1 : Int} {i1 : Itms} {t1 : List ByteArray} {b1 : Int} (h : SaveR wd room its ts s now w1 r1 i1 t1 b1) : i1.length ≤ 1000 ∧ t1.length ≤ 10 := by
  rcases h with ⟨_, _, _, rfl, rfl, _⟩ | ⟨hs, c, a, hp, _, ⟨_, _, _, rfl, rfl⟩ | ⟨rfl, _, _, rfl, rfl⟩⟩
  · simp
  · simp
  · have := hp.valid hs.1
    exact ⟨this.items, this.pins⟩
end Go.Proofs.YtffpdgpcjgfgcaaGreatDoor
