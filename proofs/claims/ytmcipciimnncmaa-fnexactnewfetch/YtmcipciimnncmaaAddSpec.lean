/- spec.l4Add: a text put into an ascending row. -/
import Derived.Test.YtmcipciimnncmaaUnpinSpec
namespace Go.Proofs.Ytmcipciimnncmaa
open Go.RowKit
/-- append of cells that lie somewhere onto an own row, as a step of a region. -/
theorem wp_append_cells {o : Oper} {a : Act} {w : World} {K : Act → World → Prop} {Q : Exit → Act → World → Prop} (s x : Operand)
    (ho : o.op = .call { callee := .builtin .append, args := #[s, x], argTypes := #[23, 23] }) (B : Nat) (v : Value) (n : Nat) (xs : List Value) (hs : a.eval s = v) (hown : w.ownsRow B 9 1 v n xs)
    (ad : Addr) (k c : Nat) (ys : List Value) (hx : a.eval x = .slice (some ad) k c) (hl : ys.length = k) (hc : ∀ j u, ys[j]? = some u → w.cell? (ad.add j) = some u) (h1 : ∀ u ∈ ys, u.oneCell' = true) (hlen : n + k ≤ 2097152) (hB : B ≤ w.heap.size)
    (h : ∀ v' w', w'.ownsRow B 9 1 v' (n + k) (xs ++ ys) → Below B w w' → w.grownBy w' v.ownBlock → K (a.put o.dst v') w') : o.wp Try.prog a w K Q := by
  obtain ⟨i0, hi, hz0, hz1, hz2⟩ := info_parts Try.info9
  refine wp_append_own w s x 23 ho B 9 i0 (.string ⟨#[]⟩) 1 16 Try.underlying23 hi hz0 hz1 hz2 rfl (by decide) v n xs hs hown ad k c ys hx (by omega) hc h1 (by unfold maxLen; omega) (by omega) hB ?_
  intro v' w' ho' hg' _
  exact h v' w' ho' ((Below.refl B w).grown hg' hB (fun g e => (hown.lt g e).1)) hg'
/-- append of nothing. -/
theorem wp_append_nil {o : Oper} {a : Act} {w : World} {K : Act → World → Prop} {Q : Exit → Act → World → Prop} (s x : Operand)
    (ho : o.op = .call { callee := .builtin .append, args := #[s, x], argTypes := #[23, 23] }) (B : Nat) (v : Value) (n : Nat) (xs : List Value) (hs : a.eval s = v) (hown : w.ownsRow B 9 1 v n xs)
    (hx : a.eval x = .slice none 0 0) (h : K (a.put o.dst v) w) : o.wp Try.prog a w K Q := by
  obtain ⟨i0, hi, hz0, hz1, hz2⟩ := info_parts Try.info9
  have hrun := run_append_owned_none (P := Try.prog) (w := w) B 23 o.type 9 i0 1 Try.underlying23 hi v n xs hown
  unfold Oper.wp
  simp [execOp, ho, resolve, invoke, builtin, hs, hx, hrun, Result.andThen]
  exact h
theorem addr_add (g f j : Nat) : (⟨g, f, none⟩ : Addr).add j = ⟨g, f + j, none⟩ := by simp [Addr.add]
theorem part_cells {w : World} {b2 g ca : Nat} {ts : List ByteArray} (hrow : w.ownsRow b2 9 1 (.slice (some ⟨g, 0, none⟩) ts.length ca) ts.length (ts.map Value.string)) (f m : Nat) (j : Nat) (u : Value) (h : (((ts.drop f).take m).map Value.string)[j]? = some u) :
    w.cell? ((⟨g, f, none⟩ : Addr).add j) = some u := by
  have hj := (List.getElem?_eq_some_iff.1 h).1
  simp at hj
  have hc := hrow.cellAt (f + j) (by omega)
  have e : (⟨g, f, none⟩ : Addr).add j = ⟨g, f + j, none⟩ := by simp [Addr.add]
  rw [e, hc]
  rw [List.getElem?_map, List.getElem?_take, if_pos (by omega), List.getElem?_drop] at h
  rw [List.getElem?_map]
  exact h
set_option maxRecDepth 100000 in
set_option maxHeartbeats 1000000 in
theorem l4Add_any (v : Value) (ts : List ByteArray) (s : ByteArray) (b2 : Nat) (w : World) (hrow : w.ownsRow b2 9 1 v ts.length (ts.map Value.string)) (hA : Asc ts) (hl : ts.length ≤ 1048576) :
    Calls Try.prog 48 #[v, .string s] w fun e w' => ∃ v', e = .returned v' ∧ ((cutN s ts < ts.length ∧ tv ts (cutN s ts) = s ∧ v' = v ∨ ¬ (cutN s ts < ts.length ∧ tv ts (cutN s ts) = s) ∧ w'.ownsRow w.heap.size 9 1 v' (ts.length + 1) ((ts.take (cutN s ts) ++ s :: ts.drop (cutN s ts)).map Value.string))) ∧ Below w.heap.size w w' := by
  have HR := hid hrow
  have hkl := cutN_le s ts
  have HBE := hid (cut_below s ts)
  have HAB := hid (cut_above s ts hA)
  rcases hrow with ⟨_, ⟨e0, h0⟩ | ⟨g, ca, cur, e0, hg1, hg2, hnc, hmc, _⟩⟩
  · have e1 : ts = [] := List.eq_nil_of_length_eq_zero h0
    subst e1
    subst e0
    have hc0 : cutN s [] = 0 := by simpa using hkl
    rw [hc0]
    clear HR HBE HAB hkl h0 hc0 hA
    go_enter Try.func48, Try.ntmps48
    go_wp2
    go_loopw [5] (fun i wr => i = .int .i64 0 ∧ wr = w) (fun i _ => 0)
    case atStart => exact ⟨rfl, rfl⟩
    case round =>
      obtain ⟨rfl, hww⟩ := hrel
      subst hww
      go_wp2_with fail
      refine wp_region_held (S := fun _ => True) (by kernel_rfl) ?_
      change wpAnyH _ _ _ _ _ _ _ _ (World.drew _)
      refine wpAnyH_take (i := 1) (v := (.slice none 0 0)) rfl (by kernel_rfl) (by kernel_rfl) (by kernel_rfl) (fun _ _ _ h => h) (.inl ⟨rfl, fun w' _ => by go_simp⟩) trivial ?_
      refine wpAnyH_take (i := 2) (v := .int .i64 0) rfl (by kernel_rfl) (by kernel_rfl) (by kernel_rfl) (fun _ _ _ h => h) (.inl ⟨rfl, fun w' _ => by go_simp⟩) trivial ?_
      refine wpAnyH_take (i := 3) (v := (.slice none 0 0)) rfl (by kernel_rfl) (by kernel_rfl) (by kernel_rfl) (fun _ _ _ h => h) (.inl ⟨rfl, fun w' _ => by go_simp⟩) trivial ?_
      refine wpAnyH_take (i := 5) (v := .string s) rfl (by kernel_rfl) (by kernel_rfl) (by kernel_rfl) (fun _ _ _ h => h) (.inl ⟨rfl, fun w' _ => by go_simp⟩) trivial ?_
      refine wpAnyH_take (i := 8) (v := (.slice none 0 0)) rfl (by kernel_rfl) (by kernel_rfl) (by kernel_rfl) (fun _ _ _ h => h) (.inl ⟨rfl, fun w' _ => by go_simp⟩) trivial ?_
      refine wpAnyH_take (i := 9) (v := .int .i64 0) rfl (by kernel_rfl) (by kernel_rfl) (by kernel_rfl) (fun _ _ _ h => h) (.inl ⟨rfl, fun w' _ => by go_simp⟩) trivial ?_
      refine wpAnyH_take (i := 10) (v := (.slice none 0 0)) rfl (by kernel_rfl) (by kernel_rfl) (by kernel_rfl) (fun _ _ _ h => h) (.inl ⟨rfl, fun w' _ => by go_simp⟩) trivial ?_
      have D0 : Below wr.heap.size wr wr.drew := below_drewN (Below.refl _ _) 1
      have E0 : (wr.drew.alloc (.cells #[] 9)).ownsRow wr.heap.size 9 1 (.slice (some ⟨wr.heap.size, 0, none⟩) 0 0) 0 [] := World.ownsRow_made wr.drew #[] 0 (Nat.le_refl _) (by simp [maxLen]) rfl
      have EB : ((wr.drew.alloc (.cells #[.string s] 9)).alloc (.cells #[] 9)).ownsRow wr.heap.size 9 1 (.slice (some ⟨wr.heap.size + 1, 0, none⟩) 0 0) 0 [] := by
        have := World.ownsRow_made (base := wr.heap.size) (e := 9) (size := 1) (wr.drew.alloc (.cells #[.string s] 9)) #[] 0 (by rw [World.size_alloc]; exact Nat.le_succ _) (by simp [maxLen]) rfl
        rw [World.size_alloc] at this
        exact this
      have B0 := D0.alloc (Nat.le_refl _) (.cells #[] 9)
      have BA := B0.alloc B0.size (.cells #[.string s] 9)
      have BN := D0.alloc (Nat.le_refl _) (.cells #[.string s] 9)
      have BB := BN.alloc BN.size (.cells #[] 9)
      have sA : (wr.drew.alloc (.cells #[] 9)).heap.size = wr.heap.size + 1 := World.size_alloc _ _
      have sB : (wr.drew.alloc (.cells #[.string s] 9)).heap.size = wr.heap.size + 1 := World.size_alloc _ _
      have NA : ∀ j u, [Value.string s][j]? = some u → ((wr.drew.alloc (.cells #[] 9)).alloc (.cells #[.string s] 9)).cell? ((⟨wr.heap.size + 1, 0, none⟩ : Addr).add j) = some u := fun j u h => by
        have h2 := cell_one_new (wr.drew.alloc (.cells #[] 9)) (.string s) 9 j u h
        rw [sA] at h2
        exact h2
      have NB : ∀ j u, [Value.string s][j]? = some u → ((wr.drew.alloc (.cells #[.string s] 9)).alloc (.cells #[] 9)).cell? ((⟨wr.heap.size, 0, none⟩ : Addr).add j) = some u := fun j u h => by
        have h2 := cell_one_new wr.drew (.string s) 9 j u h
        rw [addr_add] at h2 ⊢
        exact (((Below.refl (wr.heap.size + 1) (wr.drew.alloc (.cells #[.string s] 9))).alloc (Nat.le_of_eq sB.symm) (.cells #[] 9)).cell (p := ⟨wr.heap.size, 0 + j, none⟩) (by show wr.heap.size < _; omega)).trans h2
      have EA := E0.alloc (.cells #[.string s] 9)
      refine held_two 0 6 (by kernel_rfl) (op_value (v := .slice (some ⟨wr.heap.size, 0, none⟩) 0 0) (w' := wr.drew.alloc (.cells #[] 9)) rfl rfl (by go_simp) ⟨trivial, ?_⟩) (op_value (v := .slice (some ⟨wr.heap.size, 0, none⟩) 1 1) (w' := wr.drew.alloc (.cells #[.string s] 9)) rfl rfl (by go_simp) ⟨trivial, ?_⟩)
      · refine held_two 4 6 (by kernel_rfl) (op_wp rfl rfl (wp_append_nil (.tmp 33) (.tmp 36) rfl wr.heap.size _ 0 [] (by go_simp) E0 (by go_simp) ⟨trivial, ?_⟩)) (op_value (v := .slice (some ⟨wr.heap.size + 1, 0, none⟩) 1 1) (w' := (wr.drew.alloc (.cells #[] 9)).alloc (.cells #[.string s] 9)) rfl rfl (by go_simp) ⟨trivial, ?_⟩)
        · refine held_one 6 (by kernel_rfl) (op_value (v := .slice (some ⟨wr.heap.size + 1, 0, none⟩) 1 1) (w' := (wr.drew.alloc (.cells #[] 9)).alloc (.cells #[.string s] 9)) rfl rfl (by go_simp) ⟨trivial, ?_⟩)
          have hO := EA; have hN := NA; have hW := BA
          refine held_one 7 (by kernel_rfl) (op_wp rfl rfl (wp_append_cells (.tmp 37) (.tmp 39) rfl wr.heap.size (.slice (some ⟨wr.heap.size, 0, none⟩) 0 0) 0 _ (by go_simp) hO ⟨wr.heap.size + 1, 0, none⟩ 1 1 [.string s] (by go_simp) rfl hN (by simp [Value.oneCell']) (by omega) hW.size ?_))
          intro v2 w7 o7 b7 _
          refine ⟨trivial, ?_⟩
          have B7 := hW.trans b7
          refine held_one 11 (by kernel_rfl) (op_wp rfl rfl (wp_append_nil (.tmp 40) (.tmp 43) rfl wr.heap.size v2 (0 + 1) _ (by go_simp) o7 (by go_simp) ?_))
          refine ⟨trivial, ?_⟩
          refine held_one 12 (by kernel_rfl) (op_value (v := v2) (w' := w7) rfl rfl (by go_simp) ⟨trivial, wpAnyH_done (by kernel_rfl) ?_ _⟩)
          have OF := hid o7
          have BF := hid B7
          clear EA NA NB D0 E0 EB B0 BA BN BB sA sB o7 b7 B7 hO hN hW
          go_simp
          go_wp2
          go_ret
          exact ⟨_, rfl, .inr ⟨fun h => by simp at h, OF.out⟩, BF.out⟩
        · refine held_one 4 (by kernel_rfl) (op_wp rfl rfl (wp_append_nil (.tmp 33) (.tmp 36) rfl wr.heap.size _ 0 [] (by go_simp) EA (by go_simp) ⟨trivial, ?_⟩))
          have hO := EA; have hN := NA; have hW := BA
          refine held_one 7 (by kernel_rfl) (op_wp rfl rfl (wp_append_cells (.tmp 37) (.tmp 39) rfl wr.heap.size (.slice (some ⟨wr.heap.size, 0, none⟩) 0 0) 0 _ (by go_simp) hO ⟨wr.heap.size + 1, 0, none⟩ 1 1 [.string s] (by go_simp) rfl hN (by simp [Value.oneCell']) (by omega) hW.size ?_))
          intro v2 w7 o7 b7 _
          refine ⟨trivial, ?_⟩
          have B7 := hW.trans b7
          refine held_one 11 (by kernel_rfl) (op_wp rfl rfl (wp_append_nil (.tmp 40) (.tmp 43) rfl wr.heap.size v2 (0 + 1) _ (by go_simp) o7 (by go_simp) ?_))
          refine ⟨trivial, ?_⟩
          refine held_one 12 (by kernel_rfl) (op_value (v := v2) (w' := w7) rfl rfl (by go_simp) ⟨trivial, wpAnyH_done (by kernel_rfl) ?_ _⟩)
          have OF := hid o7
          have BF := hid B7
          clear EA NA NB D0 E0 EB B0 BA BN BB sA sB o7 b7 B7 hO hN hW
          go_simp
          go_wp2
          go_ret
          exact ⟨_, rfl, .inr ⟨fun h => by simp at h, OF.out⟩, BF.out⟩
      · refine held_one 0 (by kernel_rfl) (op_value (v := .slice (some ⟨wr.heap.size + 1, 0, none⟩) 0 0) (w' := (wr.drew.alloc (.cells #[.string s] 9)).alloc (.cells #[] 9)) rfl rfl (by go_simp) ⟨trivial, ?_⟩)
        refine held_one 4 (by kernel_rfl) (op_wp rfl rfl (wp_append_nil (.tmp 33) (.tmp 36) rfl wr.heap.size _ 0 [] (by go_simp) EB (by go_simp) ⟨trivial, ?_⟩))
        have hO := EB; have hN := NB; have hW := BB
        refine held_one 7 (by kernel_rfl) (op_wp rfl rfl (wp_append_cells (.tmp 37) (.tmp 39) rfl wr.heap.size (.slice (some ⟨wr.heap.size + 1, 0, none⟩) 0 0) 0 _ (by go_simp) hO ⟨wr.heap.size, 0, none⟩ 1 1 [.string s] (by go_simp) rfl hN (by simp [Value.oneCell']) (by omega) hW.size ?_))
        intro v2 w7 o7 b7 _
        refine ⟨trivial, ?_⟩
        have B7 := hW.trans b7
        refine held_one 11 (by kernel_rfl) (op_wp rfl rfl (wp_append_nil (.tmp 40) (.tmp 43) rfl wr.heap.size v2 (0 + 1) _ (by go_simp) o7 (by go_simp) ?_))
        refine ⟨trivial, ?_⟩
        refine held_one 12 (by kernel_rfl) (op_value (v := v2) (w' := w7) rfl rfl (by go_simp) ⟨trivial, wpAnyH_done (by kernel_rfl) ?_ _⟩)
        have OF := hid o7
        have BF := hid B7
        clear EA NA NB D0 E0 EB B0 BA BN BB sA sB o7 b7 B7 hO hN hW
        go_simp
        go_wp2
        go_ret
        exact ⟨_, rfl, .inr ⟨fun h => by simp at h, OF.out⟩, BF.out⟩
  subst e0
  have hgl : g < w.heap.size := by have := (HR.out.lt g rfl).2; exact this
  have hmc' : ca ≤ 9223372036854775807 := by unfold maxLen at hmc; omega
  have HC : Hid (∀ i, i < ts.length → w.cell? ⟨g, i, none⟩ = some (.string (tv ts i))) := fun j hj => by rw [HR.out.cellAt j (by omega)]; simp [tv, hj]
  have HP := hid fun f m => part_cells HR.out f m
  clear hA hg2 hg1 hmc
  generalize cutN s ts = c at *
  go_enter Try.func48, Try.ntmps48
  go_wp2
  go_loopw [5] (fun i wr => ∃ k : Nat, k ≤ c ∧ i = .int .i64 k ∧ wr = w) (fun i _ => c - (intOf i).toNat)
  case atStart => exact ⟨0, Nat.zero_le _, rfl, rfl⟩
  case round =>
    obtain ⟨k, hk, rfl, rfl⟩ := hrel
    by_cases hlt : k < c
    · have hc1 := HC.out k (by omega)
      have hx := HBE.out k hlt
      generalize tv ts k = x at *
      unfold tlt at hx
      go_wp2
      refine ⟨⟨k + 1, by omega, by go_num, trivial⟩, by simp [intOf]; omega⟩
    · obtain rfl : k = c := by omega
      by_cases hyes : k < ts.length ∧ tv ts k = s
      · have hin := hyes.1
        have hc1 := HC.out k hin
        have hx := HAB.out k (Nat.le_refl _) hin
        rw [hyes.2] at hc1 hx
        unfold tlt at hx
        have HY := hid hyes
        clear hyes
        go_wp2
        go_ret
        exact ⟨_, rfl, .inl ⟨HY.out.1, HY.out.2, rfl⟩, Below.refl _ _⟩
      have HNO := hid hyes
      by_cases hin : k < ts.length
      · have hc1 := HC.out k hin
        have hx := HAB.out k (Nat.le_refl _) hin
        have hee : ((tv ts k).toList == s.toList) = false := by
          rw [Bool.eq_false_iff]
          exact fun e => hyes ⟨hin, text_eq (eq_of_beq e)⟩
        clear hyes
        generalize tv ts k = x at hc1 hx hee
        unfold tlt at hx
        go_wp2_with fail
        have hkca : ¬ ca < k := by omega
        obtain ⟨o, ho, hoc⟩ : ∃ o, (if ca = k then some (⟨g, 0, none⟩ : Addr) else some ⟨g, k, none⟩) = some ⟨g, o, none⟩ ∧ (ca = k ∨ o = k) := by
          by_cases h : ca = k
          · exact ⟨0, by rw [if_pos h], .inl h⟩
          · exact ⟨k, by rw [if_neg h], .inr rfl⟩
        refine wp_region_held (S := fun _ => True) (by kernel_rfl) ?_
        change wpAnyH _ _ _ _ _ _ _ _ (World.drew _)
        refine wpAnyH_take (i := 1) (v := (.slice (some ⟨g, 0, none⟩) ts.length ca)) rfl (by kernel_rfl) (by kernel_rfl) (by kernel_rfl) (fun _ _ _ h => h) (.inl ⟨rfl, fun w' _ => by go_simp⟩) trivial ?_
        refine wpAnyH_take (i := 2) (v := .int .i64 (k : Nat)) rfl (by kernel_rfl) (by kernel_rfl) (by kernel_rfl) (fun _ _ _ h => h) (.inl ⟨rfl, fun w' _ => by go_simp⟩) trivial ?_
        refine wpAnyH_take (i := 3) (v := (.slice (some ⟨g, 0, none⟩) k ca)) rfl (by kernel_rfl) (by kernel_rfl) (by kernel_rfl) (fun _ _ _ h => h) (.inl ⟨rfl, fun w' _ => by go_simp⟩) trivial ?_
        refine wpAnyH_take (i := 5) (v := .string s) rfl (by kernel_rfl) (by kernel_rfl) (by kernel_rfl) (fun _ _ _ h => h) (.inl ⟨rfl, fun w' _ => by go_simp⟩) trivial ?_
        refine wpAnyH_take (i := 8) (v := (.slice (some ⟨g, 0, none⟩) ts.length ca)) rfl (by kernel_rfl) (by kernel_rfl) (by kernel_rfl) (fun _ _ _ h => h) (.inl ⟨rfl, fun w' _ => by go_simp⟩) trivial ?_
        refine wpAnyH_take (i := 9) (v := .int .i64 (k : Nat)) rfl (by kernel_rfl) (by kernel_rfl) (by kernel_rfl) (fun _ _ _ h => h) (.inl ⟨rfl, fun w' _ => by go_simp⟩) trivial ?_
        refine wpAnyH_take (i := 10) (v := (.slice (some ⟨g, o, none⟩) (ts.length - k) (ca - k))) rfl (by kernel_rfl) (by kernel_rfl) (by kernel_rfl) (fun _ _ _ h => h) (.inl ⟨rfl, fun w' _ => by go_simp⟩) trivial ?_
        have D0 : Below wr.heap.size wr wr.drew := below_drewN (Below.refl _ _) 1
        have E0 : (wr.drew.alloc (.cells #[] 9)).ownsRow wr.heap.size 9 1 (.slice (some ⟨wr.heap.size, 0, none⟩) 0 0) 0 [] := World.ownsRow_made wr.drew #[] 0 (Nat.le_refl _) (by simp [maxLen]) rfl
        have EB : ((wr.drew.alloc (.cells #[.string s] 9)).alloc (.cells #[] 9)).ownsRow wr.heap.size 9 1 (.slice (some ⟨wr.heap.size + 1, 0, none⟩) 0 0) 0 [] := by
          have := World.ownsRow_made (base := wr.heap.size) (e := 9) (size := 1) (wr.drew.alloc (.cells #[.string s] 9)) #[] 0 (by rw [World.size_alloc]; exact Nat.le_succ _) (by simp [maxLen]) rfl
          rw [World.size_alloc] at this
          exact this
        have B0 := D0.alloc (Nat.le_refl _) (.cells #[] 9)
        have BA := B0.alloc B0.size (.cells #[.string s] 9)
        have BN := D0.alloc (Nat.le_refl _) (.cells #[.string s] 9)
        have BB := BN.alloc BN.size (.cells #[] 9)
        have hk1 : (((ts.drop 0).take k).map Value.string).length = k := by simp; omega
        have hone : ∀ (f m : Nat) (u : Value), u ∈ ((ts.drop f).take m).map Value.string → u.oneCell' = true := fun f m u hu => by obtain ⟨x, _, rfl⟩ := List.mem_map.1 hu; rfl
        have hsrc : ∀ (W : World), Below wr.heap.size wr W → ∀ (f m j : Nat) (u : Value), (((ts.drop f).take m).map Value.string)[j]? = some u → W.cell? ((⟨g, f, none⟩ : Addr).add j) = some u := fun W hW f m j u hu => by
          have h2 := HP.out f m j u hu
          rw [addr_add] at h2 ⊢
          exact (hW.cell (p := ⟨g, f + j, none⟩) (by show g < _; omega)).trans h2
        have sA : (wr.drew.alloc (.cells #[] 9)).heap.size = wr.heap.size + 1 := World.size_alloc _ _
        have sB : (wr.drew.alloc (.cells #[.string s] 9)).heap.size = wr.heap.size + 1 := World.size_alloc _ _
        refine held_two 0 6 (by kernel_rfl) (op_value (v := .slice (some ⟨wr.heap.size, 0, none⟩) 0 0) (w' := wr.drew.alloc (.cells #[] 9)) rfl rfl (by go_simp) ⟨trivial, ?_⟩) (op_value (v := .slice (some ⟨wr.heap.size, 0, none⟩) 1 1) (w' := wr.drew.alloc (.cells #[.string s] 9)) rfl rfl (by go_simp) ⟨trivial, ?_⟩)
        · refine held_two 4 6 (by kernel_rfl) (op_wp rfl rfl (wp_append_cells (.tmp 33) (.tmp 36) rfl wr.heap.size _ 0 [] (by go_simp) E0 ⟨g, 0, none⟩ k ca _ (by go_simp) hk1 (hsrc _ B0 0 k) (hone 0 k) (by omega) B0.size ?_)) (op_value (v := .slice (some ⟨wr.heap.size + 1, 0, none⟩) 1 1) (w' := (wr.drew.alloc (.cells #[] 9)).alloc (.cells #[.string s] 9)) rfl rfl (by go_simp) ⟨trivial, ?_⟩)
          · intro v1 w4 o4 b4 g4
            refine ⟨trivial, held_one 6 (by kernel_rfl) (op_value (v := .slice (some ⟨w4.heap.size, 0, none⟩) 1 1) (w' := w4.alloc (.cells #[.string s] 9)) rfl rfl (by go_simp) ⟨trivial, ?_⟩)⟩
            have B4 := B0.trans b4
            have hO := o4.alloc (.cells #[.string s] 9)
            have hN := cell_one_new w4 (.string s) 9
            have hW := B4.alloc B4.size (.cells #[.string s] 9)
            generalize w4.alloc (.cells #[.string s] 9) = W at *
            generalize w4.heap.size = q at *
            refine held_one 7 (by kernel_rfl) (op_wp rfl rfl (wp_append_cells (.tmp 37) (.tmp 39) rfl wr.heap.size v1 (0 + k) _ (by go_simp) hO ⟨q, 0, none⟩ 1 1 [.string s] (by go_simp) rfl hN (by simp [Value.oneCell']) (by omega) hW.size ?_))
            intro v2 w7 o7 b7 _
            refine ⟨trivial, ?_⟩
            have B7 := hW.trans b7
            refine held_one 11 (by kernel_rfl) (op_wp rfl rfl (wp_append_cells (.tmp 40) (.tmp 43) rfl wr.heap.size v2 (0 + k + 1) _ (by go_simp) o7 ⟨g, o, none⟩ (ts.length - k) (ca - k) _ (by go_simp) (by simp) (fun j u hu => by
              rcases hoc with h | h
              · have h9 := (List.getElem?_eq_some_iff.1 hu).1
                simp at h9
                omega
              · rw [h]; exact hsrc _ B7 k (ts.length - k) j u hu) (hone k (ts.length - k)) (by omega) B7.size ?_))
            intro v3 w11 o11 b11 _
            refine ⟨trivial, ?_⟩
            refine held_one 12 (by kernel_rfl) (op_value (v := v3) (w' := w11) rfl rfl (by go_simp) ⟨trivial, wpAnyH_done (by kernel_rfl) ?_ _⟩)
            have OF := hid o11
            have BF := hid (B7.trans b11)
            clear D0 E0 EB B0 BA BN BB hsrc hone hk1 sA sB o7 o11 b7 b11 B7 hO hN hW
            go_simp
            go_wp2
            go_ret
            refine ⟨_, rfl, .inr ⟨HNO.out, ?_⟩, BF.out⟩
            have h1 := OF.out
            have e1 : 0 + k + 1 + (ts.length - k) = ts.length + 1 := by omega
            have e2 : [] ++ ((ts.drop 0).take k).map Value.string ++ [Value.string s] ++ ((ts.drop k).take (ts.length - k)).map Value.string = (ts.take k ++ s :: ts.drop k).map Value.string := by
              have e3 : (ts.drop k).take (ts.length - k) = ts.drop k := List.take_of_length_le (by rw [List.length_drop]; omega)
              rw [e3]
              simp
            rw [e1, e2] at h1
            exact h1
          · refine held_one 4 (by kernel_rfl) (op_wp rfl rfl (wp_append_cells (.tmp 33) (.tmp 36) rfl wr.heap.size _ 0 [] (by go_simp) (E0.alloc (.cells #[.string s] 9)) ⟨g, 0, none⟩ k ca _ (by go_simp) hk1 (hsrc _ BA 0 k) (hone 0 k) (by omega) BA.size ?_))
            intro v1 W hO b4 g4
            refine ⟨trivial, ?_⟩
            have hW := BA.trans b4
            have hN : ∀ j u, [Value.string s][j]? = some u → W.cell? ((⟨wr.heap.size + 1, 0, none⟩ : Addr).add j) = some u := fun j u h => by
              have h2 := cell_one_new (wr.drew.alloc (.cells #[] 9)) (.string s) 9 j u h
              rw [sA, addr_add] at h2
              rw [addr_add]
              exact (g4.cell_far ⟨wr.heap.size + 1, 0 + j, none⟩ (by show wr.heap.size + 1 < _; rw [World.size_alloc, sA]; omega) (fun e => by have h3 : wr.heap.size + 1 = wr.heap.size := Option.some.inj e; omega)).trans h2
            generalize wr.heap.size + 1 = q at hN ⊢
            refine held_one 7 (by kernel_rfl) (op_wp rfl rfl (wp_append_cells (.tmp 37) (.tmp 39) rfl wr.heap.size v1 (0 + k) _ (by go_simp) hO ⟨q, 0, none⟩ 1 1 [.string s] (by go_simp) rfl hN (by simp [Value.oneCell']) (by omega) hW.size ?_))
            intro v2 w7 o7 b7 _
            refine ⟨trivial, ?_⟩
            have B7 := hW.trans b7
            refine held_one 11 (by kernel_rfl) (op_wp rfl rfl (wp_append_cells (.tmp 40) (.tmp 43) rfl wr.heap.size v2 (0 + k + 1) _ (by go_simp) o7 ⟨g, o, none⟩ (ts.length - k) (ca - k) _ (by go_simp) (by simp) (fun j u hu => by
              rcases hoc with h | h
              · have h9 := (List.getElem?_eq_some_iff.1 hu).1
                simp at h9
                omega
              · rw [h]; exact hsrc _ B7 k (ts.length - k) j u hu) (hone k (ts.length - k)) (by omega) B7.size ?_))
            intro v3 w11 o11 b11 _
            refine ⟨trivial, ?_⟩
            refine held_one 12 (by kernel_rfl) (op_value (v := v3) (w' := w11) rfl rfl (by go_simp) ⟨trivial, wpAnyH_done (by kernel_rfl) ?_ _⟩)
            have OF := hid o11
            have BF := hid (B7.trans b11)
            clear D0 E0 EB B0 BA BN BB hsrc hone hk1 sA sB o7 o11 b7 b11 B7 hO hN hW
            go_simp
            go_wp2
            go_ret
            refine ⟨_, rfl, .inr ⟨HNO.out, ?_⟩, BF.out⟩
            have h1 := OF.out
            have e1 : 0 + k + 1 + (ts.length - k) = ts.length + 1 := by omega
            have e2 : [] ++ ((ts.drop 0).take k).map Value.string ++ [Value.string s] ++ ((ts.drop k).take (ts.length - k)).map Value.string = (ts.take k ++ s :: ts.drop k).map Value.string := by
              have e3 : (ts.drop k).take (ts.length - k) = ts.drop k := List.take_of_length_le (by rw [List.length_drop]; omega)
              rw [e3]
              simp
            rw [e1, e2] at h1
            exact h1
        · refine held_one 0 (by kernel_rfl) (op_value (v := .slice (some ⟨wr.heap.size + 1, 0, none⟩) 0 0) (w' := (wr.drew.alloc (.cells #[.string s] 9)).alloc (.cells #[] 9)) rfl rfl (by go_simp) ⟨trivial, ?_⟩)
          refine held_one 4 (by kernel_rfl) (op_wp rfl rfl (wp_append_cells (.tmp 33) (.tmp 36) rfl wr.heap.size _ 0 [] (by go_simp) EB ⟨g, 0, none⟩ k ca _ (by go_simp) hk1 (hsrc _ BB 0 k) (hone 0 k) (by omega) BB.size ?_))
          intro v1 W hO b4 g4
          refine ⟨trivial, ?_⟩
          have hW := BB.trans b4
          have hN : ∀ j u, [Value.string s][j]? = some u → W.cell? ((⟨wr.heap.size, 0, none⟩ : Addr).add j) = some u := fun j u h => by
            have h2 := cell_one_new wr.drew (.string s) 9 j u h
            rw [addr_add] at h2 ⊢
            refine (g4.cell_far ⟨wr.heap.size, 0 + j, none⟩ (by show wr.heap.size < _; rw [World.size_alloc, sB]; omega) (fun e => by have h3 : wr.heap.size = wr.heap.size + 1 := Option.some.inj e; omega)).trans ?_
            exact (((Below.refl (wr.heap.size + 1) (wr.drew.alloc (.cells #[.string s] 9))).alloc (Nat.le_of_eq sB.symm) (.cells #[] 9)).cell (p := ⟨wr.heap.size, 0 + j, none⟩) (by show wr.heap.size < _; omega)).trans h2
          refine held_one 7 (by kernel_rfl) (op_wp rfl rfl (wp_append_cells (.tmp 37) (.tmp 39) rfl wr.heap.size v1 (0 + k) _ (by go_simp) hO ⟨wr.heap.size, 0, none⟩ 1 1 [.string s] (by go_simp) rfl hN (by simp [Value.oneCell']) (by omega) hW.size ?_))
          intro v2 w7 o7 b7 _
          refine ⟨trivial, ?_⟩
          have B7 := hW.trans b7
          refine held_one 11 (by kernel_rfl) (op_wp rfl rfl (wp_append_cells (.tmp 40) (.tmp 43) rfl wr.heap.size v2 (0 + k + 1) _ (by go_simp) o7 ⟨g, o, none⟩ (ts.length - k) (ca - k) _ (by go_simp) (by simp) (fun j u hu => by
              rcases hoc with h | h
              · have h9 := (List.getElem?_eq_some_iff.1 hu).1
                simp at h9
                omega
              · rw [h]; exact hsrc _ B7 k (ts.length - k) j u hu) (hone k (ts.length - k)) (by omega) B7.size ?_))
          intro v3 w11 o11 b11 _
          refine ⟨trivial, ?_⟩
          refine held_one 12 (by kernel_rfl) (op_value (v := v3) (w' := w11) rfl rfl (by go_simp) ⟨trivial, wpAnyH_done (by kernel_rfl) ?_ _⟩)
          have OF := hid o11
          have BF := hid (B7.trans b11)
          clear D0 E0 EB B0 BA BN BB hsrc hone hk1 sA sB o7 o11 b7 b11 B7 hO hN hW
          go_simp
          go_wp2
          go_ret
          refine ⟨_, rfl, .inr ⟨HNO.out, ?_⟩, BF.out⟩
          have h1 := OF.out
          have e1 : 0 + k + 1 + (ts.length - k) = ts.length + 1 := by omega
          have e2 : [] ++ ((ts.drop 0).take k).map Value.string ++ [Value.string s] ++ ((ts.drop k).take (ts.length - k)).map Value.string = (ts.take k ++ s :: ts.drop k).map Value.string := by
            have e3 : (ts.drop k).take (ts.length - k) = ts.drop k := List.take_of_length_le (by rw [List.length_drop]; omega)
            rw [e3]
            simp
          rw [e1, e2] at h1
          exact h1
      · clear hyes
        go_wp2_with fail
        have hkca : ¬ ca < k := by omega
        obtain ⟨o, ho, hoc⟩ : ∃ o, (if ca = k then some (⟨g, 0, none⟩ : Addr) else some ⟨g, k, none⟩) = some ⟨g, o, none⟩ ∧ (ca = k ∨ o = k) := by
          by_cases h : ca = k
          · exact ⟨0, by rw [if_pos h], .inl h⟩
          · exact ⟨k, by rw [if_neg h], .inr rfl⟩
        refine wp_region_held (S := fun _ => True) (by kernel_rfl) ?_
        change wpAnyH _ _ _ _ _ _ _ _ (World.drew _)
        refine wpAnyH_take (i := 1) (v := (.slice (some ⟨g, 0, none⟩) ts.length ca)) rfl (by kernel_rfl) (by kernel_rfl) (by kernel_rfl) (fun _ _ _ h => h) (.inl ⟨rfl, fun w' _ => by go_simp⟩) trivial ?_
        refine wpAnyH_take (i := 2) (v := .int .i64 (k : Nat)) rfl (by kernel_rfl) (by kernel_rfl) (by kernel_rfl) (fun _ _ _ h => h) (.inl ⟨rfl, fun w' _ => by go_simp⟩) trivial ?_
        refine wpAnyH_take (i := 3) (v := (.slice (some ⟨g, 0, none⟩) k ca)) rfl (by kernel_rfl) (by kernel_rfl) (by kernel_rfl) (fun _ _ _ h => h) (.inl ⟨rfl, fun w' _ => by go_simp⟩) trivial ?_
        refine wpAnyH_take (i := 5) (v := .string s) rfl (by kernel_rfl) (by kernel_rfl) (by kernel_rfl) (fun _ _ _ h => h) (.inl ⟨rfl, fun w' _ => by go_simp⟩) trivial ?_
        refine wpAnyH_take (i := 8) (v := (.slice (some ⟨g, 0, none⟩) ts.length ca)) rfl (by kernel_rfl) (by kernel_rfl) (by kernel_rfl) (fun _ _ _ h => h) (.inl ⟨rfl, fun w' _ => by go_simp⟩) trivial ?_
        refine wpAnyH_take (i := 9) (v := .int .i64 (k : Nat)) rfl (by kernel_rfl) (by kernel_rfl) (by kernel_rfl) (fun _ _ _ h => h) (.inl ⟨rfl, fun w' _ => by go_simp⟩) trivial ?_
        refine wpAnyH_take (i := 10) (v := (.slice (some ⟨g, o, none⟩) (ts.length - k) (ca - k))) rfl (by kernel_rfl) (by kernel_rfl) (by kernel_rfl) (fun _ _ _ h => h) (.inl ⟨rfl, fun w' _ => by go_simp⟩) trivial ?_
        have D0 : Below wr.heap.size wr wr.drew := below_drewN (Below.refl _ _) 1
        have E0 : (wr.drew.alloc (.cells #[] 9)).ownsRow wr.heap.size 9 1 (.slice (some ⟨wr.heap.size, 0, none⟩) 0 0) 0 [] := World.ownsRow_made wr.drew #[] 0 (Nat.le_refl _) (by simp [maxLen]) rfl
        have EB : ((wr.drew.alloc (.cells #[.string s] 9)).alloc (.cells #[] 9)).ownsRow wr.heap.size 9 1 (.slice (some ⟨wr.heap.size + 1, 0, none⟩) 0 0) 0 [] := by
          have := World.ownsRow_made (base := wr.heap.size) (e := 9) (size := 1) (wr.drew.alloc (.cells #[.string s] 9)) #[] 0 (by rw [World.size_alloc]; exact Nat.le_succ _) (by simp [maxLen]) rfl
          rw [World.size_alloc] at this
          exact this
        have B0 := D0.alloc (Nat.le_refl _) (.cells #[] 9)
        have BA := B0.alloc B0.size (.cells #[.string s] 9)
        have BN := D0.alloc (Nat.le_refl _) (.cells #[.string s] 9)
        have BB := BN.alloc BN.size (.cells #[] 9)
        have hk1 : (((ts.drop 0).take k).map Value.string).length = k := by simp; omega
        have hone : ∀ (f m : Nat) (u : Value), u ∈ ((ts.drop f).take m).map Value.string → u.oneCell' = true := fun f m u hu => by obtain ⟨x, _, rfl⟩ := List.mem_map.1 hu; rfl
        have hsrc : ∀ (W : World), Below wr.heap.size wr W → ∀ (f m j : Nat) (u : Value), (((ts.drop f).take m).map Value.string)[j]? = some u → W.cell? ((⟨g, f, none⟩ : Addr).add j) = some u := fun W hW f m j u hu => by
          have h2 := HP.out f m j u hu
          rw [addr_add] at h2 ⊢
          exact (hW.cell (p := ⟨g, f + j, none⟩) (by show g < _; omega)).trans h2
        have sA : (wr.drew.alloc (.cells #[] 9)).heap.size = wr.heap.size + 1 := World.size_alloc _ _
        have sB : (wr.drew.alloc (.cells #[.string s] 9)).heap.size = wr.heap.size + 1 := World.size_alloc _ _
        refine held_two 0 6 (by kernel_rfl) (op_value (v := .slice (some ⟨wr.heap.size, 0, none⟩) 0 0) (w' := wr.drew.alloc (.cells #[] 9)) rfl rfl (by go_simp) ⟨trivial, ?_⟩) (op_value (v := .slice (some ⟨wr.heap.size, 0, none⟩) 1 1) (w' := wr.drew.alloc (.cells #[.string s] 9)) rfl rfl (by go_simp) ⟨trivial, ?_⟩)
        · refine held_two 4 6 (by kernel_rfl) (op_wp rfl rfl (wp_append_cells (.tmp 33) (.tmp 36) rfl wr.heap.size _ 0 [] (by go_simp) E0 ⟨g, 0, none⟩ k ca _ (by go_simp) hk1 (hsrc _ B0 0 k) (hone 0 k) (by omega) B0.size ?_)) (op_value (v := .slice (some ⟨wr.heap.size + 1, 0, none⟩) 1 1) (w' := (wr.drew.alloc (.cells #[] 9)).alloc (.cells #[.string s] 9)) rfl rfl (by go_simp) ⟨trivial, ?_⟩)
          · intro v1 w4 o4 b4 g4
            refine ⟨trivial, held_one 6 (by kernel_rfl) (op_value (v := .slice (some ⟨w4.heap.size, 0, none⟩) 1 1) (w' := w4.alloc (.cells #[.string s] 9)) rfl rfl (by go_simp) ⟨trivial, ?_⟩)⟩
            have B4 := B0.trans b4
            have hO := o4.alloc (.cells #[.string s] 9)
            have hN := cell_one_new w4 (.string s) 9
            have hW := B4.alloc B4.size (.cells #[.string s] 9)
            generalize w4.alloc (.cells #[.string s] 9) = W at *
            generalize w4.heap.size = q at *
            refine held_one 7 (by kernel_rfl) (op_wp rfl rfl (wp_append_cells (.tmp 37) (.tmp 39) rfl wr.heap.size v1 (0 + k) _ (by go_simp) hO ⟨q, 0, none⟩ 1 1 [.string s] (by go_simp) rfl hN (by simp [Value.oneCell']) (by omega) hW.size ?_))
            intro v2 w7 o7 b7 _
            refine ⟨trivial, ?_⟩
            have B7 := hW.trans b7
            refine held_one 11 (by kernel_rfl) (op_wp rfl rfl (wp_append_cells (.tmp 40) (.tmp 43) rfl wr.heap.size v2 (0 + k + 1) _ (by go_simp) o7 ⟨g, o, none⟩ (ts.length - k) (ca - k) _ (by go_simp) (by simp) (fun j u hu => by
              rcases hoc with h | h
              · have h9 := (List.getElem?_eq_some_iff.1 hu).1
                simp at h9
                omega
              · rw [h]; exact hsrc _ B7 k (ts.length - k) j u hu) (hone k (ts.length - k)) (by omega) B7.size ?_))
            intro v3 w11 o11 b11 _
            refine ⟨trivial, ?_⟩
            refine held_one 12 (by kernel_rfl) (op_value (v := v3) (w' := w11) rfl rfl (by go_simp) ⟨trivial, wpAnyH_done (by kernel_rfl) ?_ _⟩)
            have OF := hid o11
            have BF := hid (B7.trans b11)
            clear D0 E0 EB B0 BA BN BB hsrc hone hk1 sA sB o7 o11 b7 b11 B7 hO hN hW
            go_simp
            go_wp2
            go_ret
            refine ⟨_, rfl, .inr ⟨HNO.out, ?_⟩, BF.out⟩
            have h1 := OF.out
            have e1 : 0 + k + 1 + (ts.length - k) = ts.length + 1 := by omega
            have e2 : [] ++ ((ts.drop 0).take k).map Value.string ++ [Value.string s] ++ ((ts.drop k).take (ts.length - k)).map Value.string = (ts.take k ++ s :: ts.drop k).map Value.string := by
              have e3 : (ts.drop k).take (ts.length - k) = ts.drop k := List.take_of_length_le (by rw [List.length_drop]; omega)
              rw [e3]
              simp
            rw [e1, e2] at h1
            exact h1
          · refine held_one 4 (by kernel_rfl) (op_wp rfl rfl (wp_append_cells (.tmp 33) (.tmp 36) rfl wr.heap.size _ 0 [] (by go_simp) (E0.alloc (.cells #[.string s] 9)) ⟨g, 0, none⟩ k ca _ (by go_simp) hk1 (hsrc _ BA 0 k) (hone 0 k) (by omega) BA.size ?_))
            intro v1 W hO b4 g4
            refine ⟨trivial, ?_⟩
            have hW := BA.trans b4
            have hN : ∀ j u, [Value.string s][j]? = some u → W.cell? ((⟨wr.heap.size + 1, 0, none⟩ : Addr).add j) = some u := fun j u h => by
              have h2 := cell_one_new (wr.drew.alloc (.cells #[] 9)) (.string s) 9 j u h
              rw [sA, addr_add] at h2
              rw [addr_add]
              exact (g4.cell_far ⟨wr.heap.size + 1, 0 + j, none⟩ (by show wr.heap.size + 1 < _; rw [World.size_alloc, sA]; omega) (fun e => by have h3 : wr.heap.size + 1 = wr.heap.size := Option.some.inj e; omega)).trans h2
            generalize wr.heap.size + 1 = q at hN ⊢
            refine held_one 7 (by kernel_rfl) (op_wp rfl rfl (wp_append_cells (.tmp 37) (.tmp 39) rfl wr.heap.size v1 (0 + k) _ (by go_simp) hO ⟨q, 0, none⟩ 1 1 [.string s] (by go_simp) rfl hN (by simp [Value.oneCell']) (by omega) hW.size ?_))
            intro v2 w7 o7 b7 _
            refine ⟨trivial, ?_⟩
            have B7 := hW.trans b7
            refine held_one 11 (by kernel_rfl) (op_wp rfl rfl (wp_append_cells (.tmp 40) (.tmp 43) rfl wr.heap.size v2 (0 + k + 1) _ (by go_simp) o7 ⟨g, o, none⟩ (ts.length - k) (ca - k) _ (by go_simp) (by simp) (fun j u hu => by
              rcases hoc with h | h
              · have h9 := (List.getElem?_eq_some_iff.1 hu).1
                simp at h9
                omega
              · rw [h]; exact hsrc _ B7 k (ts.length - k) j u hu) (hone k (ts.length - k)) (by omega) B7.size ?_))
            intro v3 w11 o11 b11 _
            refine ⟨trivial, ?_⟩
            refine held_one 12 (by kernel_rfl) (op_value (v := v3) (w' := w11) rfl rfl (by go_simp) ⟨trivial, wpAnyH_done (by kernel_rfl) ?_ _⟩)
            have OF := hid o11
            have BF := hid (B7.trans b11)
            clear D0 E0 EB B0 BA BN BB hsrc hone hk1 sA sB o7 o11 b7 b11 B7 hO hN hW
            go_simp
            go_wp2
            go_ret
            refine ⟨_, rfl, .inr ⟨HNO.out, ?_⟩, BF.out⟩
            have h1 := OF.out
            have e1 : 0 + k + 1 + (ts.length - k) = ts.length + 1 := by omega
            have e2 : [] ++ ((ts.drop 0).take k).map Value.string ++ [Value.string s] ++ ((ts.drop k).take (ts.length - k)).map Value.string = (ts.take k ++ s :: ts.drop k).map Value.string := by
              have e3 : (ts.drop k).take (ts.length - k) = ts.drop k := List.take_of_length_le (by rw [List.length_drop]; omega)
              rw [e3]
              simp
            rw [e1, e2] at h1
            exact h1
        · refine held_one 0 (by kernel_rfl) (op_value (v := .slice (some ⟨wr.heap.size + 1, 0, none⟩) 0 0) (w' := (wr.drew.alloc (.cells #[.string s] 9)).alloc (.cells #[] 9)) rfl rfl (by go_simp) ⟨trivial, ?_⟩)
          refine held_one 4 (by kernel_rfl) (op_wp rfl rfl (wp_append_cells (.tmp 33) (.tmp 36) rfl wr.heap.size _ 0 [] (by go_simp) EB ⟨g, 0, none⟩ k ca _ (by go_simp) hk1 (hsrc _ BB 0 k) (hone 0 k) (by omega) BB.size ?_))
          intro v1 W hO b4 g4
          refine ⟨trivial, ?_⟩
          have hW := BB.trans b4
          have hN : ∀ j u, [Value.string s][j]? = some u → W.cell? ((⟨wr.heap.size, 0, none⟩ : Addr).add j) = some u := fun j u h => by
            have h2 := cell_one_new wr.drew (.string s) 9 j u h
            rw [addr_add] at h2 ⊢
            refine (g4.cell_far ⟨wr.heap.size, 0 + j, none⟩ (by show wr.heap.size < _; rw [World.size_alloc, sB]; omega) (fun e => by have h3 : wr.heap.size = wr.heap.size + 1 := Option.some.inj e; omega)).trans ?_
            exact (((Below.refl (wr.heap.size + 1) (wr.drew.alloc (.cells #[.string s] 9))).alloc (Nat.le_of_eq sB.symm) (.cells #[] 9)).cell (p := ⟨wr.heap.size, 0 + j, none⟩) (by show wr.heap.size < _; omega)).trans h2
          refine held_one 7 (by kernel_rfl) (op_wp rfl rfl (wp_append_cells (.tmp 37) (.tmp 39) rfl wr.heap.size v1 (0 + k) _ (by go_simp) hO ⟨wr.heap.size, 0, none⟩ 1 1 [.string s] (by go_simp) rfl hN (by simp [Value.oneCell']) (by omega) hW.size ?_))
          intro v2 w7 o7 b7 _
          refine ⟨trivial, ?_⟩
          have B7 := hW.trans b7
          refine held_one 11 (by kernel_rfl) (op_wp rfl rfl (wp_append_cells (.tmp 40) (.tmp 43) rfl wr.heap.size v2 (0 + k + 1) _ (by go_simp) o7 ⟨g, o, none⟩ (ts.length - k) (ca - k) _ (by go_simp) (by simp) (fun j u hu => by
              rcases hoc with h | h
              · have h9 := (List.getElem?_eq_some_iff.1 hu).1
                simp at h9
                omega
              · rw [h]; exact hsrc _ B7 k (ts.length - k) j u hu) (hone k (ts.length - k)) (by omega) B7.size ?_))
          intro v3 w11 o11 b11 _
          refine ⟨trivial, ?_⟩
          refine held_one 12 (by kernel_rfl) (op_value (v := v3) (w' := w11) rfl rfl (by go_simp) ⟨trivial, wpAnyH_done (by kernel_rfl) ?_ _⟩)
          have OF := hid o11
          have BF := hid (B7.trans b11)
          clear D0 E0 EB B0 BA BN BB hsrc hone hk1 sA sB o7 o11 b7 b11 B7 hO hN hW
          go_simp
          go_wp2
          go_ret
          refine ⟨_, rfl, .inr ⟨HNO.out, ?_⟩, BF.out⟩
          have h1 := OF.out
          have e1 : 0 + k + 1 + (ts.length - k) = ts.length + 1 := by omega
          have e2 : [] ++ ((ts.drop 0).take k).map Value.string ++ [Value.string s] ++ ((ts.drop k).take (ts.length - k)).map Value.string = (ts.take k ++ s :: ts.drop k).map Value.string := by
            have e3 : (ts.drop k).take (ts.length - k) = ts.drop k := List.take_of_length_le (by rw [List.length_drop]; omega)
            rw [e3]
            simp
          rw [e1, e2] at h1
          exact h1
end Go.Proofs.Ytmcipciimnncmaa
