/- impl.Get. -/
import Derived.Test.YtmcipciimnncmaaGetSpec
import Derived.Test.YtmcipciimnncmaaKeysLay
namespace Go.Proofs.Ytmcipciimnncmaa
open Go.RowKit Go.Sort
theorem itx_set (its : Itms) (i : Nat) (now : Int) (h : i < its.length) (j : Nat) : itx (its.set i (itx its i, now)) j = itx its j := by
  by_cases e : i = j
  · subst e; simp [itx, h]
  · simp [itx, List.getElem?_set_ne e]
theorem itu_same (its : Itms) (i : Nat) (now : Int) (h : i < its.length) : itu (its.set i (itx its i, now)) i = now := by simp [itu, h]
theorem itu_other (its : Itms) (i : Nat) (now : Int) (j : Nat) (e : i ≠ j) : itu (its.set i (itx its i, now)) j = itu its j := by simp [itu, List.getElem?_set_ne e]
theorem sumsL_set (n : Int) (its : Itms) (i : Nat) (now : Int) (h : i < its.length) : sumsL n (its.set i (itx its i, now)) = sumsL n its := by
  apply List.ext_getElem?
  intro j
  by_cases hj : j < its.length
  · rw [sumsL_get n _ j (by simpa using hj), sumsL_get n _ j hj, itx_set its i now h j]
  · rw [List.getElem?_eq_none (by rw [sumsL_len]; simp; omega), List.getElem?_eq_none (by rw [sumsL_len]; omega)]
theorem sums_inj {n : Int} {its : Itms} (hN : (sumsL n its).Pairwise (· < ·)) {i j : Nat} (hi : i < its.length) (hj : j < its.length) (h : (sumX n (itx its i)).data.toList = (sumX n (itx its j)).data.toList) : i = j := by
  obtain ⟨_, g1⟩ := List.getElem_of_getElem? (sumsL_get n its i hi)
  obtain ⟨_, g2⟩ := List.getElem_of_getElem? (sumsL_get n its j hj)
  rcases Nat.lt_trichotomy i j with hl | hl | hl
  · have h1 := List.pairwise_iff_getElem.1 hN i j (by rw [sumsL_len]; omega) (by rw [sumsL_len]; omega) hl
    rw [g1, g2, h] at h1
    exact absurd h1 (List.lt_irrefl _)
  · exact hl
  · have h1 := List.pairwise_iff_getElem.1 hN j i (by rw [sumsL_len]; omega) (by rw [sumsL_len]; omega) hl
    rw [g1, g2, h] at h1
    exact absurd h1 (List.lt_irrefl _)
/-- 'v, ok := m[k]' of the map of items. -/
theorem wpList_look_item {ops : Array Oper} {rest : List Oper} {o : Oper} {a : Act} {Q : Exit → Act → World → Prop} (w : World) (hg : o.guard = none) (m x : Operand) (hop : o.op = Op.lookup 68 m x true) (b n : Nat) (D : DataW Unit)
    (hm : a.eval m = .map (some b)) (hown : w.ownsMap Try.prog 9 itemElem b n D) (s : ByteArray) (hs : s.size ≤ maxLen) (hx : a.eval x = .string s) (t : ByteArray) (u : Int) (hat : D.atKey (.string s.data.toList) (datI (⟨#[]⟩, 0)) = datI (t, u)) (hh : Bool) (hhas : Maps.has D (.string s.data.toList) = hh)
    (hK : wpList Try.prog ops Q rest (a.put o.dst (.tuple #[.agg #[.string t, .int .i64 u], .bool hh])) w) : wpList Try.prog ops Q (o :: rest) a w := by
  refine wpList_lookup_own_ok w hg m x 68 hop 9 52 keyed9 Try.underlying68 itemElem (zvItem w) (datI (⟨#[]⟩, 0)) [] (itemElem_mk ⟨#[]⟩ 0) b n D hm hown (.string s) _ hx (key9 s hs) ?_
  intro v ps hv
  rw [hat] at hv
  obtain rfl := itemElem_inv hv
  rw [hhas]
  exact hK
set_option maxRecDepth 100000 in
set_option maxHeartbeats 2000000 in
theorem implGet_any (wd room : Int) (vi vp : Value) (its : Itms) (ts : List ByteArray) (s : ByteArray) (now : Int) (w : World) (hi : RdI w vi its) (hp : Reads w vp ts) (hli : its.length ≤ 1048576) (hlp : ts.length ≤ 1048576) (hsi : ∀ i, (itx its i).size ≤ 1048576) (hsp : ∀ i, (tv ts i).size ≤ 1048576) (hss : s.size ≤ 1048576) :
    Calls Try.prog 18 #[.agg #[.int .i64 wd, .int .i64 room, vi, vp], .string s, .int .i64 now] w fun e w' => ∃ x wd' room' its' ts' b vi' vp', e = .returned (.tuple #[.string x, .agg #[.int .i64 wd', .int .i64 room', vi', vp'], .bool b]) ∧ GetR wd room its ts s now x wd' room' its' ts' b ∧ StoreOwn w' (w.heap.size + 2) vi' vp' its' ts' ∧ Below w.heap.size w w' := by
  obtain ⟨ai, ci, rfl, hci⟩ := hi
  obtain ⟨ap, cp, rfl, _⟩ := hp.form
  have hi : RdI w (.slice ai its.length ci) its := ⟨ai, ci, rfl, hci⟩
  have hA := ((Below.refl w.heap.size w).alloc (Nat.le_refl _) (.cells #[.int .i64 wd, .int .i64 room, .slice ai its.length ci, .slice ap ts.length cp] 30)).alloc (by simp) (.cells #[.int .i64 0, .int .i64 0, .slice none 0 0, .slice none 0 0] 30)
  have hN7 := Blk.new (w.alloc (.cells #[.int .i64 wd, .int .i64 room, .slice ai its.length ci, .slice ap ts.length cp] 30)) 30 #[.int .i64 0, .int .i64 0, .slice none 0 0, .slice none 0 0]
  rw [World.size_alloc] at hN7
  have HN7 := hid hN7
  have HO := hid (openStore_any wd room _ _ its ts _ (hi.below hA) (hp.below hA) hli hlp hsi hsp)
  have HA := hid hA
  have HSI := hid hsi
  have HSP := hid hsp
  clear hi hp hA hN7 hsi hsp hci
  go_enter Try.func18, Try.ntmps18
  go_wp2_with fail
  refine HO.out.mono ?_
  rintro e w1 (⟨hn, rfl, hb1⟩ | ⟨hv, sb, mb, vc, rfl, hsh, hb1⟩)
  · have N7 := HN7.out.below hb1
    have B1 := HA.out.trans (hb1.mono (by simp; omega))
    have HF : Hid (¬ GetOk wd room its ts s now) := fun h => hn h.1
    have s9 := N7.store4 (.int .i64 0) (.int .i64 0) (.slice none 0 0) (.slice none 0 0)
    have s0 := s9.a0; have s1 := s9.a1; have s2 := s9.a2; have s3 := s9.a3
    have k0 := s9.f0; have k1 := s9.f1; have k2 := s9.f2; have k3 := s9.f3
    have Z := hid s9.z
    have BB := hid ((((B1.setCell (p := ⟨w.heap.size + 1, 0, none⟩) (by simp) (.int .i64 0)).setCell (p := ⟨w.heap.size + 1, 1, none⟩) (by simp) (.int .i64 0)).setCell (p := ⟨w.heap.size + 1, 2, none⟩) (by simp) (.slice none 0 0)).setCell (p := ⟨w.heap.size + 1, 3, none⟩) (by simp) (.slice none 0 0))
    clear s9 N7 B1 hn hb1
    go_wp2
    refine bodyPost_ret (v := .tuple #[.string ⟨#[]⟩, .agg #[.int .i64 0, .int .i64 0, .slice none 0 0, .slice none 0 0], .bool false]) (by simp [results, Try.results18, go_sem, Z.out.cell]) rfl ⟨_, 0, 0, [], [], false, _, _, rfl, .inl ⟨rfl, rfl, rfl, rfl, rfl, rfl, HF.out⟩, StoreOwn.none _ _, BB.out⟩
  have N7 := HN7.out.below hb1
  have B1 := HA.out.trans (hb1.mono (by simp; omega))
  have HT := hid fun W => isTime_any now W
  by_cases ht : 0 ≤ now ∧ now ≤ 1000000
  case neg =>
    have HF : Hid (¬ GetOk wd room its ts s now) := fun h => ht h.2.1
    rw [decide_eq_false ht] at HT
    have s9 := N7.store4 (.int .i64 0) (.int .i64 0) (.slice none 0 0) (.slice none 0 0)
    have s0 := s9.a0; have s1 := s9.a1; have s2 := s9.a2; have s3 := s9.a3
    have k0 := s9.f0; have k1 := s9.f1; have k2 := s9.f2; have k3 := s9.f3
    have Z := hid s9.z
    have BB := hid ((((B1.setCell (p := ⟨w.heap.size + 1, 0, none⟩) (by simp) (.int .i64 0)).setCell (p := ⟨w.heap.size + 1, 1, none⟩) (by simp) (.int .i64 0)).setCell (p := ⟨w.heap.size + 1, 2, none⟩) (by simp) (.slice none 0 0)).setCell (p := ⟨w.heap.size + 1, 3, none⟩) (by simp) (.slice none 0 0))
    clear s9 N7 B1 hsh hb1
    go_wp2_with fail
    refine (HT.out _).mono ?_
    rintro e w2 ⟨rfl, rfl⟩
    go_wp2
    refine bodyPost_ret (v := .tuple #[.string ⟨#[]⟩, .agg #[.int .i64 0, .int .i64 0, .slice none 0 0, .slice none 0 0], .bool false]) (by simp [results, Try.results18, go_sem, Z.out.cell]) rfl ⟨_, 0, 0, [], [], false, _, _, rfl, .inl ⟨rfl, rfl, rfl, rfl, rfl, rfl, HF.out⟩, StoreOwn.none _ _, BB.out⟩
  rw [decide_eq_true ht] at HT
  have hasc := sums_asc hv.each
  have hsbl := hsh.hs
  have hmbl := hsh.hm
  simp only [World.size_alloc] at hsbl hmbl
  have c3 : w1.cell? ⟨sb, 3, none⟩ = some (.map (some mb)) := hsh.box.cell 3
  have HSH := hid hsh
  have HVAL := hid hv
  have hs7 := N7.lt
  have hhas := fun x => (mapI_has wd its x its.length (Nat.le_refl _))
  rw [List.take_of_length_le (by rw [sumsL_len]; exact Nat.le_refl _)] at hhas
  cases hh : Maps.has (mapI wd its its.length) (.string s.data.toList) with
  | false =>
    have hat := Maps.atKey_of_not_has hh (datI (⟨#[]⟩, 0))
    have HF : Hid (¬ GetOk wd room its ts s now) := fun h => by
      obtain ⟨i, h1, h2⟩ := h.2.2
      have : s.data.toList ∈ sumsL wd its := by
        rw [← h2]
        exact List.mem_of_getElem? (sumsL_get wd its i h1)
      rw [← hhas, hh] at this
      cases this
    have s0 : ∀ o, (w1.alloc o).cell? ⟨w.heap.size + 1, 0, none⟩ = some (.int .i64 0) := fun o => (N7.alloc o).cell 0
    have k0 : ∀ o, (w1.alloc o).frozen? ⟨w.heap.size + 1, 0, none⟩ = false := fun o => (N7.alloc o).fz 0
    have s1 : ∀ o, ((w1.setCell ⟨w.heap.size + 1, 0, none⟩ (.int .i64 0)).alloc o).cell? ⟨w.heap.size + 1, 1, none⟩ = some (.int .i64 0) := fun o => ((N7.set 0 (.int .i64 0)).alloc o).cell 1
    have k1 : ∀ o, ((w1.setCell ⟨w.heap.size + 1, 0, none⟩ (.int .i64 0)).alloc o).frozen? ⟨w.heap.size + 1, 1, none⟩ = false := fun o => ((N7.set 0 (.int .i64 0)).alloc o).fz 1
    have s2 : ∀ o, (((w1.setCell ⟨w.heap.size + 1, 0, none⟩ (.int .i64 0)).setCell ⟨w.heap.size + 1, 1, none⟩ (.int .i64 0)).alloc o).cell? ⟨w.heap.size + 1, 2, none⟩ = some (.slice none 0 0) := fun o => (((N7.set 0 (.int .i64 0)).set 1 (.int .i64 0)).alloc o).cell 2
    have k2 : ∀ o, (((w1.setCell ⟨w.heap.size + 1, 0, none⟩ (.int .i64 0)).setCell ⟨w.heap.size + 1, 1, none⟩ (.int .i64 0)).alloc o).frozen? ⟨w.heap.size + 1, 2, none⟩ = false := fun o => (((N7.set 0 (.int .i64 0)).set 1 (.int .i64 0)).alloc o).fz 2
    have s3 : ∀ o, ((((w1.setCell ⟨w.heap.size + 1, 0, none⟩ (.int .i64 0)).setCell ⟨w.heap.size + 1, 1, none⟩ (.int .i64 0)).setCell ⟨w.heap.size + 1, 2, none⟩ (.slice none 0 0)).alloc o).cell? ⟨w.heap.size + 1, 3, none⟩ = some (.slice none 0 0) := fun o => ((((N7.set 0 (.int .i64 0)).set 1 (.int .i64 0)).set 2 (.slice none 0 0)).alloc o).cell 3
    have k3 : ∀ o, ((((w1.setCell ⟨w.heap.size + 1, 0, none⟩ (.int .i64 0)).setCell ⟨w.heap.size + 1, 1, none⟩ (.int .i64 0)).setCell ⟨w.heap.size + 1, 2, none⟩ (.slice none 0 0)).alloc o).frozen? ⟨w.heap.size + 1, 3, none⟩ = false := fun o => ((((N7.set 0 (.int .i64 0)).set 1 (.int .i64 0)).set 2 (.slice none 0 0)).alloc o).fz 3
    have Z := hid (((((N7.set 0 (.int .i64 0)).set 1 (.int .i64 0)).set 2 (.slice none 0 0)).set 3 (.slice none 0 0)).alloc (.cells #[.string ⟨#[]⟩, .int .i64 0] 52))
    have BB := hid (((((B1.setCell (p := ⟨w.heap.size + 1, 0, none⟩) (by simp) (.int .i64 0)).setCell (p := ⟨w.heap.size + 1, 1, none⟩) (by simp) (.int .i64 0)).setCell (p := ⟨w.heap.size + 1, 2, none⟩) (by simp) (.slice none 0 0)).setCell (p := ⟨w.heap.size + 1, 3, none⟩) (by simp) (.slice none 0 0)).alloc (by have := B1.size; simp; omega) (.cells #[.string ⟨#[]⟩, .int .i64 0] 52))
    have HMP := hid hsh.map
    clear hhas hasc hsh hv N7 B1 hb1
    go_wp2_with (first | (go_at_call 45; refine (HT.out _).mono ?_; rintro e w2 ⟨rfl, rfl⟩) | (at_lookup; refine wpList_look_item _ rfl _ _ rfl mb its.length (mapI wd its its.length) (by go_simp) HMP.out s (by unfold maxLen; omega) (by go_simp) ⟨#[]⟩ 0 hat false hh ?_))
    refine bodyPost_ret (v := .tuple #[.string ⟨#[]⟩, .agg #[.int .i64 0, .int .i64 0, .slice none 0 0, .slice none 0 0], .bool false]) (by simp [results, Try.results18, go_sem, Z.out.cell]) rfl ⟨_, 0, 0, [], [], false, _, _, rfl, .inl ⟨rfl, rfl, rfl, rfl, rfl, rfl, HF.out⟩, StoreOwn.none _ _, BB.out⟩
  | true =>
    obtain ⟨i, hil, hsum⟩ : ∃ i, i < its.length ∧ (sumX wd (itx its i)).data.toList = s.data.toList := by
      have h1 := (hhas s.data.toList).1 hh
      obtain ⟨i, hi2, he⟩ := List.getElem_of_mem h1
      rw [sumsL_len] at hi2
      obtain ⟨_, g1⟩ := List.getElem_of_getElem? (sumsL_get wd its i hi2)
      exact ⟨i, hi2, by rw [← g1]; exact he⟩
    have hsx : sumX wd (itx its i) = s := text_eq (by rw [ByteArray.toList_eq, ByteArray.toList_eq]; exact hsum)
    have hat : (mapI wd its its.length).atKey (.string s.data.toList) (datI (⟨#[]⟩, 0)) = datI (itx its i, itu its i) := by rw [← hsum]; exact mapI_at wd its hasc _ its.length (Nat.le_refl _) i hil
    have HMP := hid hsh.map
    generalize hti : itx its i = t at *
    generalize itu its i = u at *
    have HTI := hid hti
    have XN := Blk.new w1 52 #[.string t, .int .i64 u]
    have SHx := hsh.below ((Below.refl w1.heap.size w1).alloc (Nat.le_refl _) (.cells #[.string t, .int .i64 u] 52))
    have hT0 : (w1.alloc (.cells #[.string t, .int .i64 u] 52)).drew.cell? ⟨sb, 3, none⟩ = some (.map (some mb)) ∧ (w1.alloc (.cells #[.string t, .int .i64 u] 52)).drew.cell? ⟨w1.heap.size, 0, none⟩ = some (.string t) := ⟨(cell_drew _ _).trans (SHx.box.cell 3), (cell_drew _ _).trans (XN.cell 0)⟩
    have cx : ∀ o, (w1.alloc o).cell? ⟨sb, 3, none⟩ = some (.map (some mb)) := fun o => (hsh.box.alloc o).cell 3
    have HSX := hid SHx
    have HXN := hid XN
    have HN1 := hid (N7.alloc (.cells #[.string t, .int .i64 u] 52))
    have HB1 := hid (B1.alloc B1.size (.cells #[.string t, .int .i64 u] 52))
    have hsz1 := B1.size
    have hmlt := hsh.map.lt
    have hslt := hsh.box.lt
    have hne := hsh.ne
    clear hsh SHx XN N7 B1 hb1 hti
    go_upto_region 7 with (first | (go_at_call 45; refine (HT.out _).mono ?_; rintro e w1 ⟨rfl, rfl⟩) | (at_lookup; refine wpList_look_item _ rfl _ _ rfl mb its.length (mapI wd its its.length) (by go_simp) HMP.out s (by unfold maxLen; omega) (by go_simp) t u hat true hh ?_))
    refine wp_region_held (S := fun w' => w'.cell? ⟨sb, 3, none⟩ = some (.map (some mb)) ∧ w'.cell? ⟨w1.heap.size, 0, none⟩ = some (.string t)) (by kernel_rfl) ?_
    change wpAnyH _ _ _ _ _ _ _ _ (World.drew _)
    refine wpAnyH_take (i := 0) (v := .pointer (some ⟨sb, 0, none⟩)) rfl (by kernel_rfl) (by kernel_rfl) (by kernel_rfl) (fun _ _ _ h => h) (.inl ⟨rfl, fun w' hS => by obtain ⟨s1, s2⟩ := hS; go_simp⟩) hT0 ?_
    refine wpAnyH_take (i := 1) (v := .pointer (some ⟨sb, 0, none⟩)) rfl (by kernel_rfl) (by kernel_rfl) (by kernel_rfl) (fun _ _ _ h => h) (.inl ⟨rfl, fun w' hS => by obtain ⟨s1, s2⟩ := hS; go_simp⟩) hT0 ?_
    refine wpAnyH_take (i := 2) (v := .pointer (some ⟨sb, 3, none⟩)) rfl (by kernel_rfl) (by kernel_rfl) (by kernel_rfl) (fun _ _ _ h => h) (.inl ⟨rfl, fun w' hS => by obtain ⟨s1, s2⟩ := hS; go_simp⟩) hT0 ?_
    refine wpAnyH_take (i := 3) (v := .map (some mb)) rfl (by kernel_rfl) (by kernel_rfl) (by kernel_rfl) (fun _ _ _ h => h) (.inl ⟨rfl, fun w' hS => by obtain ⟨s1, s2⟩ := hS; go_simp⟩) hT0 ?_
    refine wpAnyH_take (i := 4) (v := .string s) rfl (by kernel_rfl) (by kernel_rfl) (by kernel_rfl) (fun _ _ _ h => h) (.inl ⟨rfl, fun w' hS => by obtain ⟨s1, s2⟩ := hS; go_simp⟩) hT0 ?_
    refine wpAnyH_take (i := 5) (v := .pointer (some ⟨w1.heap.size, 0, none⟩)) rfl (by kernel_rfl) (by kernel_rfl) (by kernel_rfl) (fun _ _ _ h => h) (.inl ⟨rfl, fun w' hS => by obtain ⟨s1, s2⟩ := hS; go_simp⟩) hT0 ?_
    refine wpAnyH_take (i := 6) (v := .string t) rfl (by kernel_rfl) (by kernel_rfl) (by kernel_rfl) (fun _ _ _ h => h) (.inl ⟨rfl, fun w' hS => by obtain ⟨s1, s2⟩ := hS; go_simp⟩) hT0 ?_
    refine wpAnyH_take (i := 7) (v := .int .i64 now) rfl (by kernel_rfl) (by kernel_rfl) (by kernel_rfl) (fun _ _ _ h => h) (.inl ⟨rfl, fun w' hS => by obtain ⟨s1, s2⟩ := hS; go_simp⟩) hT0 ?_
    refine wpAnyH_take (i := 8) (v := .agg #[.string t, .int .i64 now]) rfl (by kernel_rfl) (by kernel_rfl) (by kernel_rfl) (fun _ _ _ h => h) (.inl ⟨rfl, fun w' hS => by obtain ⟨s1, s2⟩ := hS; go_simp⟩) hT0 ?_
    have MD := World.ownsMap.drew HSX.out.map
    obtain ⟨w6, hrun, hm6, hg6⟩ := MD.update keyed9 Try.underlying68 (by unfold maxLen; omega) (key9 s (by unfold maxLen; omega)) (itemElem_mk t now)
    have hg6' : (w1.alloc (.cells #[.string t, .int .i64 u] 52)).grownBy w6 (some mb) := ⟨hg6.os, hg6.tape, hg6.output, hg6.size, hg6.block⟩
    have hn1 : some sb ≠ some mb := fun e => hne (Option.some.inj e)
    have hn2 : some w1.heap.size ≠ some mb := fun e => by have := Option.some.inj e; omega
    have hn3 : some (w.heap.size + 1) ≠ some mb := fun e => by have := Option.some.inj e; omega
    have X6 := HSX.out.box.kept hg6' hn1
    have Y6 := HXN.out.kept hg6' hn2
    have N6 := HN1.out.kept hg6' hn3
    have hT6 : w6.cell? ⟨sb, 3, none⟩ = some (.map (some mb)) ∧ w6.cell? ⟨w1.heap.size, 0, none⟩ = some (.string t) := ⟨X6.cell 3, Y6.cell 0⟩
    have R6 := HSX.out.row.kept hg6' (.inr HSX.out.nm)
    have B6 := HB1.out.grown hg6' (by simp; omega) (fun k e => by have := Option.some.inj e; omega)
    refine held_one 9 (by kernel_rfl) (op_skip (w' := w6) rfl rfl (by go_simp) ⟨hT6, wpAnyH_done (by kernel_rfl) ?_ _⟩)
    have y0 : w6.cell? ⟨w1.heap.size, 0, none⟩ = some (.string t) := Y6.cell 0
    have HCL := hid fun W => stringsClone_any t W (by have := HSI.out i; rw [HTI.out] at this; omega)
    have hset : its.set i (t, now) = its.set i (itx its i, now) := by rw [HTI.out]
    have HST := hid fun (W : World) (m' : Nat) (h1 : Blk W sb 70 #[.int .i64 wd, .int .i64 room, .int .i64 (totI (its.take its.length) : Nat), .map (some mb), vc]) (h2 : W.ownsMap Try.prog 9 itemElem mb m' ((mapI wd its its.length).put (.string s.data.toList) (.agg [.lit (.string t.data.toList), .lit (.int .i64 now)]))) (h3 : Reads W vc ts) =>
      shelfStore_any keysOK sb mb m' vc wd room _ (its.set i (t, now)) ts _ W h1 h2 ((mapI_tidy wd its its.length).put (key_lit9 _) _)
        (by rw [hset, sumsL_set wd its i now hil]; exact hasc)
        (fun x => by
          rw [hset, sumsL_set wd its i now hil, ← hhas x]
          by_cases hx : x = s.data.toList
          · subst hx
            rw [Maps.has_put_same (mapI_tidy wd its its.length).isMap (key_lit9 _) _, hh]
          · rw [Maps.has_put_other (k := .string s.data.toList) (k' := .string x) (fun e => hx (by injection e))])
        (fun j hj z => by
          have hj' : j < its.length := by simpa using hj
          rw [hset, itx_set its i now hil j]
          by_cases hij : i = j
          · subst hij
            rw [itu_same its i now hil, HTI.out, hsum, Maps.atKey_put_same (mapI_tidy wd its its.length).isMap (key_lit9 _) _ _]
            rfl
          · rw [itu_other its i now j hij, Maps.atKey_put_other (k := .string s.data.toList) (k' := .string (sumX wd (itx its j)).data.toList) (fun e => hij (by
              have e2 : (sumX wd (itx its j)).data.toList = s.data.toList := by injection e
              exact (sums_inj hasc hj' hil (by rw [e2, HTI.out, hsum])).symm))]
            exact mapI_at wd its hasc z its.length (Nat.le_refl _) j hj')
        h3 (by simpa using hli) hlp HSP.out (fun j => by rw [hset, itx_set its i now hil j]; exact HSI.out j)
    have HX6 := hid X6
    have HM6 := hid hm6
    have HN6 := hid N6
    have HR6 := hid (Reads.of_row R6)
    have HB6 := hid B6
    have hs6 := hg6'.size
    clear hT0 hT6 hrun hm6 hg6 hg6' MD X6 Y6 N6 R6 B6 cx hhas hat
    go_simp
    go_wp2_with fail
    refine (HCL.out _).mono ?_
    rintro e w7 ⟨rfl, hb7⟩
    have HST7 := hid (HST.out w7 _ (HX6.out.below hb7) (HM6.out.kept (grown_of_below hb7) (by simp)) (HR6.out.below hb7))
    have N7 := HN6.out.below hb7
    have B7 := HB6.out.trans (hb7.mono HB6.out.size)
    clear hb7 HST y0
    go_wp2_with fail
    refine HST7.out.mono ?_
    rintro e w8 ⟨v8, p8, rfl, oi8, op8, hap8, hb8⟩
    obtain ⟨a8, c8, rfl⟩ := row_any oi8
    obtain ⟨b8, d8, rfl⟩ := row_any op8
    have N8 := N7.below hb8
    have hlt7 := N7.lt
    have B8 := B7.trans (hb8.mono B7.size)
    have s9 := N8.store4 (.int .i64 wd) (.int .i64 room) (.slice a8 (its.set i (t, now)).length c8) (.slice b8 ts.length d8)
    have s0 := s9.a0; have s1 := s9.a1; have s2 := s9.a2; have s3 := s9.a3
    have k0 := s9.f0; have k1 := s9.f1; have k2 := s9.f2; have k3 := s9.f3
    have Z := hid s9.z
    have SO : StoreOwn w8 (w7.heap.size + 1) (.slice a8 (its.set i (t, now)).length c8) (.slice b8 ts.length d8) (its.set i (t, now)) ts := ⟨oi8, op8, hap8⟩
    have GG := fun (x : World) (j : Nat) (y : Value) => grownBy_setCellAt x (w.heap.size + 1) j y
    have SO4 := hid ((((SO.kept (GG _ 0 (.int .i64 wd)) (by omega)).kept (GG _ 1 (.int .i64 room)) (by omega)).kept (GG _ 2 (.slice a8 (its.set i (t, now)).length c8)) (by omega)).kept (GG _ 3 (.slice b8 ts.length d8)) (by omega))
    have BB := hid ((((B8.setCell (p := ⟨w.heap.size + 1, 0, none⟩) (by simp) (.int .i64 wd)).setCell (p := ⟨w.heap.size + 1, 1, none⟩) (by simp) (.int .i64 room)).setCell (p := ⟨w.heap.size + 1, 2, none⟩) (by simp) (.slice a8 (its.set i (t, now)).length c8)).setCell (p := ⟨w.heap.size + 1, 3, none⟩) (by simp) (.slice b8 ts.length d8))
    have HRES : Hid (GetR wd room its ts s now t wd room (its.set i (t, now)) ts true) := .inr ⟨rfl, rfl, rfl, rfl, ⟨HVAL.out, ht, i, hil, by rw [HTI.out]; exact hsx⟩, i, hil, by rw [HTI.out]; exact hsx, HTI.out.symm, hset⟩
    clear s9 SO GG oi8 op8 hap8 hb8 N7 N8 B7 B8 hset
    generalize (its.set i (t, now)) = its9 at *
    go_wp2
    refine bodyPost_ret (v := .tuple #[.string t, .agg #[.int .i64 wd, .int .i64 room, .slice a8 its9.length c8, .slice b8 ts.length d8], .bool true]) (by simp [results, Try.results18, go_sem, Z.out.cell]) rfl ⟨_, wd, room, its9, ts, true, _, _, rfl, HRES.out, SO4.out.base (by omega), BB.out⟩
end Go.Proofs.Ytmcipciimnncmaa
