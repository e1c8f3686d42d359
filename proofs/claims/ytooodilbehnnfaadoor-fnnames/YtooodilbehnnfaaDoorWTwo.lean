/- laws.wTwo: whether two texts show two different texts with one sum. -/
import Derived.Test.YtooodilbehnnfaaDoorNamesLaw
import Derived.Test.YtooodilbehnnfaaDoorClashSpec
import Derived.Laws.AppendOwnNone
namespace Go.Proofs.YtooodilbehnnfaaDoor
open Go.RowKit
/-- append of a row of strings onto an own one. -/
theorem wpList_append_row {ops : Array Oper} {rest : List Oper} {o : Oper} {a : Act} {w : World} {Q : Exit → Act → World → Prop} (hgd : o.guard = none) (s x : Operand)
    (ho : o.op = .call { callee := .builtin .append, args := #[s, x], argTypes := #[22, 22] }) (B : Nat) (v : Value) (n : Nat) (xs : List Value) (hs : a.eval s = v) (hown : w.ownsRow B 9 1 v n xs)
    (b2 : Nat) (v2 : Value) (k : Nat) (ys : List Value) (hx : a.eval x = v2) (hrow : w.ownsRow b2 9 1 v2 k ys) (h1 : ∀ u ∈ ys, u.oneCell' = true) (hlen : n + k ≤ 100000) (hB : B ≤ w.heap.size)
    (h : ∀ v' w', w'.ownsRow B 9 1 v' (n + k) (xs ++ ys) → Below B w w' → wpList Tryd.prog ops Q rest (a.put o.dst v') w') : wpList Tryd.prog ops Q (o :: rest) a w := by
  obtain ⟨i0, hi, hz0, hz1, hz2⟩ := info_parts Tryd.info9
  have hrow0 := hrow
  rcases hrow with ⟨hl, ⟨rfl, rfl⟩ | ⟨g, cap, cur, rfl, hb, hg, hn, hm, hsz, hxs⟩⟩
  · obtain rfl : ys = [] := List.eq_nil_of_length_eq_zero (by simpa using hl)
    exact wpList_append_own_none hgd s x 22 ho B 9 i0 1 Tryd.underlying22 hi v n xs hs hown hx (h v w (by simpa using hown) (Below.refl _ _))
  · refine wpList_append_own w hgd s x 22 ho B 9 i0 (.string ⟨#[]⟩) 1 16 Tryd.underlying22 hi hz0 hz1 hz2 rfl (by decide) v n xs hs hown ⟨g, 0, none⟩ k cap ys hx hl (fun j u hj => ?_) h1 (by unfold maxLen; omega) (by omega) hB ?_
    · have hjl := (List.getElem?_eq_some_iff.1 hj).1
      have hc := hrow0.cellAt j (by omega)
      have e : (⟨g, 0, none⟩ : Addr).add j = ⟨g, j, none⟩ := by simp [Addr.add]; intro h; exact h.symm
      rw [e, hc, hj]
    · intro v' w' ho' hg' _
      exact h v' w' ho' ((Below.refl B w).grown hg' hB (fun g e => (hown.lt g e).1))
theorem toList_ext {x y : ByteArray} (h : x.toList = y.toList) : x = y := by
  apply ByteArray.ext; apply Array.ext'
  rwa [ByteArray.toList_eq, ByteArray.toList_eq] at h
theorem made_one (w : World) (s : ByteArray) (B : Nat) (hB : B ≤ w.heap.size) : (w.alloc (.cells #[.string s] 9)).ownsRow B 9 1 (.slice (some ⟨w.heap.size, 0, none⟩) 1 1) 1 [.string s] :=
  ⟨by simp, .inr ⟨w.heap.size, 1, #[.string s], rfl, hB, World.alloc_heap_new w _, Nat.le_refl _, by simp [maxLen], by simp, by simp⟩⟩
theorem formT_size (s : ByteArray) (m : Int) : (formT s m).size ≤ maxLen := formR_size s m
theorem shown_size (a b : ByteArray) (m : Int) : ∀ i, (tx (shown a b m) i).size ≤ maxLen := by
  have key : ∀ x ∈ shown a b m, x.size ≤ maxLen := by
    intro x hx
    unfold shown at hx
    simp only [List.cons_append, List.mem_cons, List.mem_append] at hx
    rcases hx with rfl | hx | rfl | hx
    · exact formT_size a m
    · have := piecesOf_size a x hx; unfold maxLen; omega
    · exact formT_size b m
    · have := piecesOf_size b x hx; unfold maxLen; omega
  intro i
  unfold tx
  by_cases h : i < (shown a b m).length
  · rw [List.getD_eq_getElem?_getD, List.getElem?_eq_getElem h]
    exact key _ (List.getElem_mem h)
  · rw [List.getD_eq_getElem?_getD, List.getElem?_eq_none (by omega)]
    simp
theorem str_cells (ps : List ByteArray) : ∀ u ∈ ps.map Value.string, u.oneCell' = true := by
  intro u hu
  obtain ⟨p, _, rfl⟩ := List.mem_map.1 hu
  simp [Value.oneCell']
set_option maxRecDepth 100000 in
set_option maxHeartbeats 1000000 in
theorem wTwo_any (a b : ByteArray) (m : Int) (w : World) (hw : isW m = true) (ha : a.size ≤ 3000) (hb : b.size ≤ 3000) (hn : a ≠ b) (h : nameB a m = nameB b m) :
    Calls Tryd.prog 14 #[.string a, .string b, .int .i64 m] w fun e w' => e = .returned (.bool true) ∧ Below w.heap.size w w' := by
  have l1 := piecesOf_len375 a ha
  have l2 := piecesOf_len375 b hb
  have hlen : (shown a b m).length = 1 + (piecesOf a).length + 1 + (piecesOf b).length := by simp [shown]; omega
  have hmap : ([Value.string (formT a m)] ++ (piecesOf a).map Value.string ++ [Value.string (formT b m)]) ++ (piecesOf b).map Value.string = (shown a b m).map Value.string := by simp [shown]
  have HTOLD := hid fun x y ok (hr : ClRes (shown a b m) m x y ok) => shown_told hw ha hb hn h hr
  have HC := hid fun W v (h : Reads W v (shown a b m)) => specClash_any v (shown a b m) m W h (by unfold maxLen; omega) (shown_size a b m)
  have HDa := hid fun W => specDescribe_any a m W (by unfold maxLen; omega)
  have HDb := hid fun W => specDescribe_any b m W (by unfold maxLen; omega)
  have hda := descS_len a m
  have hdb := descS_len b m
  have HFa := hid fun W v (h : Reads W v (descS a m)) => specFormList_any (descN a m) v (descS a m) m W h (by unfold maxLen; omega) (descS_size a m)
  have HFb := hid fun W v (h : Reads W v (descS b m)) => specFormList_any (descN b m) v (descS b m) m W h (by unfold maxLen; omega) (descS_size b m)
  change Hid (∀ W v, Reads W v (descS a m) → Calls Tryd.prog 7 #[.agg #[.int .i64 (descN a m), v], .int .i64 m] W fun e w' => e = .returned (.string (formT a m)) ∧ Below W.heap.size W w') at HFa
  change Hid (∀ W v, Reads W v (descS b m) → Calls Tryd.prog 7 #[.agg #[.int .i64 (descN b m), v], .int .i64 m] W fun e w' => e = .returned (.string (formT b m)) ∧ Below W.heap.size W w') at HFb
  have HPa := hid fun W => specPieces_any a W (by unfold maxLen; omega)
  have HPb := hid fun W => specPieces_any b W (by unfold maxLen; omega)
  have HLEN := hid hlen
  have HMAP := hid hmap
  generalize shown a b m = sh at *
  generalize formT a m = fa at *
  generalize formT b m = fb at *
  generalize descS a m = da at *
  generalize descS b m = db at *
  generalize descN a m = na at *
  generalize descN b m = nb at *
  generalize piecesOf a = pa at *
  generalize piecesOf b = pb at *
  clear hlen hmap hda hdb hw hn h
  go_enter Tryd.func14, Tryd.ntmps14
  go_wp2_with fail
  refine (HDa.out _).mono ?_
  rintro e w1 ⟨v1, rfl, ho1, hb1⟩
  go_wp2_with fail
  refine (HFa.out _ _ (Reads.of_row ho1)).mono ?_
  rintro e w2 ⟨rfl, hb2⟩
  have HB2 := hid (hb1.trans (hb2.mono hb1.size))
  clear ho1 hb1 hb2
  go_wp2_with fail
  refine (HPa.out _).mono ?_
  rintro e w3 ⟨v3, rfl, ho3, hb3⟩
  have hR3 := Below.row hb3 (made_one w2 fa w2.heap.size (Nat.le_refl _))
  have hz3 := hb3.size
  have HB3 := hid ((HB2.out.trans ((Below.refl w.heap.size w2).alloc HB2.out.size _)).trans (hb3.mono (by have := HB2.out.size; simp; omega)))
  have hwz := HB2.out.size
  simp at hz3
  clear hb3 HB2
  go_wp2_with (at_builtin; refine wpList_append_row rfl _ _ rfl w2.heap.size _ 1 _ rfl hR3 _ v3 pa.length _ rfl ho3 (str_cells pa) (by omega) (by omega) ?_; intro v4 w4 ho4 hb4)
  have hz4 := hb4.size
  have HB4 := hid (HB3.out.trans (hb4.mono hwz))
  have HO4 := hid ho4
  obtain ⟨a4, c4, rfl, _⟩ := row_form ho4
  clear hR3 ho3 HB3 hb4 ho4
  go_wp2_with fail
  refine (HDb.out _).mono ?_
  rintro e w5 ⟨v5, rfl, ho5, hb5⟩
  go_wp2_with fail
  refine (HFb.out _ _ (Reads.of_row ho5)).mono ?_
  rintro e w6 ⟨rfl, hb6⟩
  have hb56 := hb5.trans (hb6.mono hb5.size)
  have hz6 := hb56.size
  have HO6 := hid (Below.row hb56 HO4.out)
  have HB6 := hid (HB4.out.trans (hb56.mono HB4.out.size))
  clear ho5 hb5 hb6 hb56 HO4 HB4
  have ho6 := HO6.out.alloc (.cells #[.string fb] 9)
  have hN6 := made_one w6 fb w6.heap.size (Nat.le_refl _)
  have hs6 : w2.heap.size ≤ (w6.alloc (.cells #[.string fb] 9)).heap.size := by simp; omega
  go_wp2_with (at_builtin; refine wpList_append_row rfl _ _ rfl w2.heap.size _ (1 + pa.length) _ rfl ho6 _ _ 1 _ rfl hN6 (by simp [Value.oneCell']) (by omega) hs6 ?_; intro v7 w7 ho7 hb7)
  have HO7 := hid ho7
  have HB7 := hid ((HB6.out.trans ((Below.refl w.heap.size w6).alloc HB6.out.size _)).trans (hb7.mono hwz))
  have hz7 := hb7.size
  obtain ⟨a7, c7, rfl, _⟩ := row_form ho7
  clear ho6 hN6 HO6 HB6 ho7 hb7
  go_wp2_with fail
  refine (HPb.out _).mono ?_
  rintro e w8 ⟨v8, rfl, ho8, hb8⟩
  have hz8 := hb8.size
  have hR8 := Below.row hb8 HO7.out
  have HB8 := hid (HB7.out.trans (hb8.mono HB7.out.size))
  clear hb8 HO7 HB7
  go_wp2_with (at_builtin; refine wpList_append_row rfl _ _ rfl w2.heap.size _ (1 + pa.length + 1) _ rfl hR8 _ v8 pb.length _ rfl ho8 (str_cells pb) (by omega) (by omega) ?_; intro v9 w9 ho9 hb9)
  have HB9 := hid (HB8.out.trans (hb9.mono hwz))
  rw [← HLEN.out] at ho9
  have hR9 : Reads w9 v9 sh := Reads.of_row (base := w2.heap.size) (by rw [← HMAP.out]; exact ho9)
  have HR9 := hid hR9
  obtain ⟨a9, c9, rfl, _⟩ := row_form ho9
  clear hR8 ho8 HB8 hb9 ho9 hR9
  go_wp2_with fail
  refine (HC.out _ _ HR9.out).mono ?_
  rintro e wa ⟨x, y, ok, rfl, hcl, hba⟩
  obtain ⟨rfl, hxy⟩ := HTOLD.out x y ok hcl
  have HBA := hid (HB9.out.trans (hba.mono HB9.out.size))
  clear hcl hba HB9
  go_wp2
  go_ret
  exact ⟨by simp; exact fun e => hxy (toList_ext e), HBA.out⟩
end Go.Proofs.YtooodilbehnnfaaDoor
