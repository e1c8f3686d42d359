/- slices.Insert of one text; (*shelf).pin. -/
import Derived.Shelf.Spec.SlicesInsertGrow
import Derived.Test.YtmcipciimnncmaaPinSpec
namespace Go.Proofs.Ytmcipciimnncmaa
open Go.RowKit Go.Shelf
def nRen : Ren := { f := fun n => if n = 22 then 71 else if n = 17 then 98 else if n = 29 then 79 else if n = 30 then 80 else if n = 36 then 86 else n, t := fun n => if n = 24 then 23 else n, g := fun n => n }
theorem nLays : Lays2.n22 Try.prog nRen where
  mixed := by kernel_rfl
  f17 := by kernel_rfl
  f22 := by kernel_rfl
  f29 := by kernel_rfl
  f30 := by kernel_rfl
  f36 := by kernel_rfl
  t0 := by kernel_rfl
  a0 := fun _ => by kernel_rfl
  z0 := fun _ => by kernel_rfl
  v0 := fun _ => by kernel_rfl
  t3 := by kernel_rfl
  a3 := fun _ => by kernel_rfl
  z3 := fun _ => by kernel_rfl
  v3 := fun _ => by kernel_rfl
  t4 := by kernel_rfl
  a4 := fun _ => by kernel_rfl
  z4 := fun _ => by kernel_rfl
  v4 := fun _ => by kernel_rfl
  t9 := by kernel_rfl
  a9 := fun _ => by kernel_rfl
  z9 := fun _ => by kernel_rfl
  v9 := fun _ => by kernel_rfl
  t24 := by kernel_rfl
  a24 := fun _ => by kernel_rfl
  z24 := fun _ => by kernel_rfl
  v24 := fun _ => by kernel_rfl
  i9 := by kernel_rfl
theorem ins_get (ts : List ByteArray) (name : ByteArray) (i : Nat) (hi : i ≤ ts.length) (j : Nat) : (ts.take i ++ name :: ts.drop i).getD j ByteArray.empty = if j < i then tv ts j else if j = i then name else tv ts (j - 1) := by
  have hl : (ts.take i).length = i := by simp; omega
  rw [List.getD_eq_getElem?_getD, List.getElem?_append, hl]
  split
  · next h => rw [List.getElem?_take_of_lt h]; simp [tv]
  · next h =>
    split
    · next h2 => subst h2; simp
    · next h2 =>
      obtain ⟨k, rfl⟩ : ∃ k, j = i + 1 + k := ⟨j - (i + 1), by omega⟩
      rw [show i + 1 + k - i = k + 1 by omega, List.getElem?_cons_succ, List.getElem?_drop, show i + 1 + k - 1 = i + k by omega]
      simp [tv]
theorem grown_far {A B : World} {o : Option Nat} (h : A.grownBy B o) {b : Nat} (hb : A.heap.size ≤ b) (i : Nat) (vs : List Value) : A.grownBy (B.setCells b i vs) o :=
  have hg := grown_setCells b vs i B
  ⟨hg.os.trans h.os, hg.tape.trans h.tape, hg.output.trans h.output, Nat.le_trans h.size hg.size, fun k hk hn => (hg.block k (Nat.lt_of_lt_of_le hk h.size) (fun e => by have := Option.some.inj e; omega)).trans (h.block k hk hn)⟩
theorem insertRow_any (v : Value) (i B vb : Nat) (ts : List ByteArray) (name : ByteArray) (w : World) (hr : w.ownsRow B 9 1 v ts.length (ts.map Value.string)) (hi : i ≤ ts.length) (hts : ts.length ≤ 1048576) (hv : w.heap[vb]? = some (.cells #[.string name] 9 (0, 0))) (hne : v.ownBlock ≠ some vb) :
    Calls Try.prog 71 #[v, .int .i64 i, .slice (some ⟨vb, 0, none⟩) 1 1] w fun e w' => ∃ v', e = .returned v' ∧ Reads w' v' (ts.take i ++ name :: ts.drop i) ∧ (∀ b, v'.ownBlock = some b → v.ownBlock = some b ∨ w.heap.size ≤ b) ∧ w.grownBy w' v.ownBlock := by
  have hl : (ts.take i ++ name :: ts.drop i).length = ts.length + 1 := by simp; omega
  have hcs : (ts.map Value.string).length = ts.length := by simp
  have h1c : ∀ x ∈ ts.map Value.string, x.oneCell' = true := fun x hx => by obtain ⟨y, _, rfl⟩ := List.mem_map.1 hx; rfl
  have h1v : ∀ x ∈ [Value.string name], x.oneCell' = true := fun x hx => by rw [List.mem_singleton.1 hx]; rfl
  have hvs : ∀ (j : Nat) (x : Value), [Value.string name][j]? = some x → w.cell? ⟨vb, 0 + j, none⟩ = some x := fun j x hj => by
    have : j = 0 := by
      by_cases h : j = 0
      · exact h
      · rw [List.getElem?_eq_none (by simp; omega)] at hj; cases hj
    subst this
    simp at hj
    subst hj
    simp [World.cell?, hv]
  have hzc : ((Value.string ⟨#[]⟩).cells).size = 1 := rfl
  have hdd : Below w.heap.size w w.drew := below_drewN (Below.refl _ _) 1
  rcases hr with ⟨h0, ⟨rfl, hn⟩ | ⟨g, cap, cur, rfl, hB, hcur, hnc, hmc, hsz, htk⟩⟩
  · have e1 : ts = [] := List.eq_nil_of_length_eq_zero hn
    subst e1
    have : i = 0 := by simpa using hi
    subst this
    have h := Any2.slices_Insert_string_end_grow nLays none 0 0 vb 0 1 1 [] [Value.string name] w (by omega) (by omega) (by omega) (by omega) rfl rfl (fun _ => rfl) (fun _ e => by cases e) hvs h1v
    refine h.mono ?_
    rintro e w' ⟨rfl, rfl⟩
    refine ⟨_, rfl, .inr ⟨w.heap.size, 0, _, rfl, ?_, ?_⟩, fun b e => .inr (by cases e; exact Nat.le_refl _), grown_same (grown_below' hdd) (World.grownBy_alloc _ _ _)⟩
    · rw [World.size_alloc]; exact Nat.lt_succ_self _
    · intro j hj
      have : j = 0 := by simpa using hj
      subst this
      have hc := World.cell?_alloc_new w.drew (([] ++ [Value.string name]).toArray ++ Builtin.zeroCells (Value.string ⟨#[]⟩).cells (grownCap w (0 + 1) 0 (nRen.t 9) - (0 + 1))) (nRen.t 9) 0
      refine Eq.trans (Eq.trans ?_ hc) (by rw [Array.getElem?_append_left (by simp)]; simp)
      rfl
  have hr : w.ownsRow B 9 1 (.slice (some ⟨g, 0, none⟩) ts.length cap) ts.length (ts.map Value.string) := ⟨h0, .inr ⟨g, cap, cur, rfl, hB, hcur, hnc, hmc, hsz, htk⟩⟩
  have hgv : vb ≠ g := fun e => hne (by rw [e]; rfl)
  have hlt := (hr.lt g rfl).2
  have hcm : cap ≤ 9223372036854775807 := by unfold maxLen at hmc; omega
  have hcell : ∀ j, j < ts.length → w.cell? ⟨g, 0 + j, none⟩ = some (.string (tv ts j)) := fun j hj => by
    rw [Nat.zero_add, hr.cellAt j (by omega)]
    simp [tv, hj]
  have hcell2 : ∀ (j : Nat) (x : Value), (ts.map Value.string)[j]? = some x → w.cell? ⟨g, 0 + j, none⟩ = some x := fun j x hj => by
    rw [Nat.zero_add, ← hj]
    have : j < ts.length := by
      by_cases h : j < ts.length
      · exact h
      · rw [List.getElem?_eq_none (by simp; omega)] at hj; cases hj
    exact hr.cellAt j (by omega)
  have hspare : ∀ j, j < cap → (w.cell? ⟨g, 0 + j, none⟩).isSome = true := fun j hj => by
    have : j < cur.size := by omega
    simp [World.cell?, hcur, this]
  have hfz : ∀ j, w.frozen? ⟨g, 0 + j, none⟩ = false := fun j => hr.frozenAt _
  by_cases hroom : ts.length + 1 ≤ cap
  · by_cases hin : i < ts.length
    · have h := Any2.slices_Insert_string_shift nLays g 0 ts.length cap i vb 0 1 1 (ts.map Value.string) [Value.string name] w hin (by omega) hroom hcm hgv hcs rfl hcell2 (fun j hj => hspare j (by omega)) (fun j _ => hfz j) hvs h1c h1v 9 9 1 cap (by simp [World.shape?, hv]) (by simp [World.shape?, hcur, hsz]) (by omega) (by simp [World.frozen?, hv]) (by simp [World.frozen?, hv])
      refine h.mono ?_
      rintro e w' ⟨rfl, rfl⟩
      have hg : w.grownBy ((w.drew.setCells g (0 + (i + 1)) ((ts.map Value.string).drop i)).setCells g (0 + i) [Value.string name]) (some g) := grown_same (grown_below' hdd) (grown_same (grown_setCells g _ _ _) (grown_setCells g _ _ _))
      refine ⟨_, rfl, .inr ⟨g, 0, cap, by rw [hl], Nat.lt_of_lt_of_le hlt hg.size, fun j hj => ?_⟩, fun b e => .inl e, hg⟩
      rw [hl] at hj
      rw [ins_get ts name i hi]
      have hd1 : ∀ k, k < ((ts.map Value.string).drop i).length → (w.drew.cell? ⟨g, 0 + (i + 1) + k, none⟩).isSome = true := fun k hk => by
        have := hspare (i + 1 + k) (by simp at hk; omega)
        rw [show 0 + (i + 1) + k = 0 + (i + 1 + k) by omega]
        exact this
      split
      · next h1 =>
        rw [World.cell?_setCells_out g _ _ _ _ (fun _ _ => .inl (by show 0 + j < 0 + i; omega)), World.cell?_setCells_out g _ _ _ _ (fun _ _ => .inl (by show 0 + j < 0 + (i + 1); omega))]
        exact hcell j (by omega)
      · next h1 =>
        split
        · next h2 =>
          subst h2
          have := World.cell?_setCells_in g [Value.string name] (0 + j) (w.drew.setCells g (0 + (j + 1)) ((ts.map Value.string).drop j)) (fun k hk => by
            have hk0 : k = 0 := by simpa using hk
            subst hk0
            rw [World.cell?_setCells_out g _ _ _ _ (fun _ _ => .inl (by show 0 + j + 0 < 0 + (j + 1); omega))]
            exact hspare j (by omega)) 0 (by simp)
          exact this
        · next h2 =>
          obtain ⟨k, rfl⟩ : ∃ k, j = i + 1 + k := ⟨j - (i + 1), by omega⟩
          rw [World.cell?_setCells_out g _ _ _ _ (fun _ _ => .inr (by show 0 + i + 1 ≤ 0 + (i + 1 + k); omega))]
          have := World.cell?_setCells_in g ((ts.map Value.string).drop i) (0 + (i + 1)) w.drew hd1 k (by simp; omega)
          rw [show 0 + (i + 1 + k) = 0 + (i + 1) + k by omega, this]
          have hk3 : i + k < ts.length := by omega
          rw [show i + 1 + k - 1 = i + k by omega]
          simp [tv, hk3]
    · have hin' : i = ts.length := by omega
      subst hin'
      have h := Any2.slices_Insert_string_end_room nLays g 0 ts.length cap vb 0 1 1 [Value.string name] w (by omega) hroom hcm rfl (fun j hj => by rw [Nat.add_assoc]; exact hspare _ (by omega)) (fun j _ => by rw [Nat.add_assoc]; exact hfz _) hvs h1v
      refine h.mono ?_
      rintro e w' ⟨rfl, rfl⟩
      have hg : w.grownBy (w.setCells g (0 + ts.length) [Value.string name]) (some g) := grown_setCells g _ _ _
      refine ⟨_, rfl, .inr ⟨g, 0, cap, by rw [hl], Nat.lt_of_lt_of_le hlt hg.size, fun j hj => ?_⟩, fun b e => .inl e, hg⟩
      rw [hl] at hj
      rw [ins_get ts name ts.length hi]
      split
      · next h1 =>
        rw [World.cell?_setCells_out g _ _ _ _ (fun _ _ => .inl (by show 0 + j < 0 + ts.length; omega))]
        exact hcell j h1
      · next h1 =>
        have hjn : j = ts.length := by omega
        subst hjn
        rw [if_pos rfl]
        exact World.cell?_setCells_in g [Value.string name] (0 + ts.length) w (fun k hk => by
          have hk0 : k = 0 := by simpa using hk
          subst hk0
          exact hspare ts.length (by omega)) 0 (by simp)
  · by_cases hin : i < ts.length
    · have h := Any2.slices_Insert_string_grow nLays g 0 ts.length cap i vb 0 1 1 (ts.map Value.string) [Value.string name] w hin (by omega) hnc (by omega) (by omega) hcs rfl hcell2 hvs h1c h1v
      refine h.mono ?_
      rintro e w' ⟨rfl, rfl⟩
      generalize hGC : grownCap w (ts.length + 1) cap (nRen.t 9) = gc
      generalize hAR : ((ts.map Value.string).take i).toArray ++ Builtin.zeroCells (Value.string ⟨#[]⟩).cells (ts.length + 1 - i) ++ Builtin.zeroCells (Value.string ⟨#[]⟩).cells (gc - (ts.length + 1)) = ar
      have har : ts.length + 1 ≤ ar.size := by
        rw [← hAR]
        simp [size_zeroCells, hzc]
        omega
      have ha0 : ∀ j, j < i → ar[j]? = some (.string (tv ts j)) := fun j hj => by
        rw [← hAR, Array.getElem?_append_left (by simp; omega), Array.getElem?_append_left (by simp; omega)]
        have : j < ts.length := by omega
        simp [tv, hj, this]
      have hA : w.grownBy (w.alloc (.cells ar (nRen.t 9))) (some g) := World.grownBy_alloc _ _ _
      have hA2 : w.grownBy (w.alloc (.cells ar (nRen.t 9))).drew (some g) := ⟨hA.os, hA.tape, hA.output, hA.size, hA.block⟩
      have hS1 : w.grownBy ((w.alloc (.cells ar (nRen.t 9))).drew.setCells w.heap.size i [Value.string name]) (some g) := grown_far hA2 (Nat.le_refl _) i [Value.string name]
      have hS2 : w.grownBy ((w.alloc (.cells ar (nRen.t 9))).drew.setCells w.heap.size i [Value.string name]).drew (some g) := ⟨hS1.os, hS1.tape, hS1.output, hS1.size, hS1.block⟩
      have hg := grown_far hS2 (Nat.le_refl _) (i + 1) ((ts.map Value.string).drop i)
      have hz : w.heap.size < (w.alloc (.cells ar (nRen.t 9))).heap.size := by rw [World.size_alloc]; exact Nat.lt_succ_self _
      have hsz5 : w.heap.size < ((((w.alloc (.cells ar (nRen.t 9))).drew.setCells w.heap.size i [Value.string name]).drew).setCells w.heap.size (i + 1) ((ts.map Value.string).drop i)).heap.size :=
        Nat.lt_of_lt_of_le hz (Nat.le_trans (grown_setCells w.heap.size [Value.string name] i (w.alloc (.cells ar (nRen.t 9))).drew).size (grown_setCells w.heap.size ((ts.map Value.string).drop i) (i + 1) ((w.alloc (.cells ar (nRen.t 9))).drew.setCells w.heap.size i [Value.string name]).drew).size)
      have hnew : ∀ j, (w.alloc (.cells ar (nRen.t 9))).drew.cell? ⟨w.heap.size, j, none⟩ = ar[j]? := fun j => World.cell?_alloc_new w ar (nRen.t 9) j
      have hd0 : ∀ k, k < [Value.string name].length → ((w.alloc (.cells ar (nRen.t 9))).drew.cell? ⟨w.heap.size, i + k, none⟩).isSome = true := fun k hk => by
        have hk0 : k = 0 := by simpa using hk
        subst hk0
        rw [hnew, Array.getElem?_eq_getElem (by omega)]; rfl
      have hd1 : ∀ k, k < ((ts.map Value.string).drop i).length → (((w.alloc (.cells ar (nRen.t 9))).drew.setCells w.heap.size i [Value.string name]).drew.cell? ⟨w.heap.size, i + 1 + k, none⟩).isSome = true := fun k hk => by
        show (((w.alloc (.cells ar (nRen.t 9))).drew.setCells w.heap.size i [Value.string name]).cell? ⟨w.heap.size, i + 1 + k, none⟩).isSome = true
        rw [World.cell?_setCells_out w.heap.size _ _ _ _ (fun _ _ => .inr (by show i + 1 ≤ i + 1 + k; omega)), hnew, Array.getElem?_eq_getElem (by simp at hk; omega)]; rfl
      refine ⟨_, rfl, .inr ⟨w.heap.size, 0, gc, by rw [hl], hsz5, fun j hj => ?_⟩, fun b e => .inr (by cases e; exact Nat.le_refl _), hg⟩
      rw [hl] at hj
      rw [ins_get ts name i hi, Nat.zero_add]
      split
      · next h1 =>
        rw [World.cell?_setCells_out w.heap.size _ _ _ _ (fun _ _ => .inl (by show j < i + 1; omega))]
        show ((w.alloc (.cells ar (nRen.t 9))).drew.setCells w.heap.size i [Value.string name]).cell? ⟨w.heap.size, j, none⟩ = _
        rw [World.cell?_setCells_out w.heap.size _ _ _ _ (fun _ _ => .inl (by show j < i; omega)), hnew]
        exact ha0 j h1
      · next h1 =>
        split
        · next h2 =>
          subst h2
          rw [World.cell?_setCells_out w.heap.size _ _ _ _ (fun _ _ => .inl (by show j < j + 1; omega))]
          exact World.cell?_setCells_in w.heap.size [Value.string name] j (w.alloc (.cells ar (nRen.t 9))).drew hd0 0 (by simp)
        · next h2 =>
          obtain ⟨k, rfl⟩ : ∃ k, j = i + 1 + k := ⟨j - (i + 1), by omega⟩
          have := World.cell?_setCells_in w.heap.size ((ts.map Value.string).drop i) (i + 1) ((w.alloc (.cells ar (nRen.t 9))).drew.setCells w.heap.size i [Value.string name]).drew hd1 k (by simp; omega)
          rw [this]
          have hk3 : i + k < ts.length := by omega
          rw [show i + 1 + k - 1 = i + k by omega]
          simp [tv, hk3]
    · have hin' : i = ts.length := by omega
      subst hin'
      have h := Any2.slices_Insert_string_end_grow nLays (some ⟨g, 0, none⟩) ts.length cap vb 0 1 1 (ts.map Value.string) [Value.string name] w (by omega) hnc (by omega) (by omega) hcs rfl (fun e => by cases e) (fun a e j x hj => by cases e; rw [Addr.add_lit]; exact hcell2 j x hj) hvs h1v
      refine h.mono ?_
      rintro e w' ⟨rfl, rfl⟩
      generalize hGC : grownCap w (ts.length + 1) cap (nRen.t 9) = gc
      refine ⟨_, rfl, .inr ⟨w.heap.size, 0, gc, by rw [hl], ?_, ?_⟩, fun b e => .inr (by cases e; exact Nat.le_refl _), grown_same (grown_below' hdd) (World.grownBy_alloc _ _ _)⟩
      · rw [World.size_alloc]; exact Nat.lt_succ_self _
      · intro j hj
        rw [hl] at hj
        rw [ins_get ts name ts.length hi, Nat.zero_add]
        have hc := World.cell?_alloc_new w.drew ((ts.map Value.string ++ [Value.string name]).toArray ++ Builtin.zeroCells (Value.string ⟨#[]⟩).cells (gc - (ts.length + 1))) (nRen.t 9) j
        refine Eq.trans (Eq.trans ?_ hc) ?_
        · rfl
        · rw [Array.getElem?_append_left (by simp; omega)]
          simp only [List.getElem?_toArray]
          rw [List.getElem?_append]
          split
          · next h1 =>
            have h1' : j < ts.length := by simpa using h1
            rw [if_pos h1']
            simp [tv, h1']
          · next h1 =>
            have hjn : j = ts.length := by simp at h1; omega
            subst hjn
            simp
end Go.Proofs.Ytmcipciimnncmaa
