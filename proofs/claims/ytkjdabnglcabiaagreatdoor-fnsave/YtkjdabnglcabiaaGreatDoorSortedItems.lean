/- spec.l4Sorted: a row of items out of texts, by halves. -/
import Derived.Test.YtkjdabnglcabiaaGreatDoorToItems
import Derived.Test.YtkjdabnglcabiaaGreatDoorHeapMath
import Derived.Test.YtkjdabnglcabiaaGreatDoorShort
namespace Go.Proofs.YtkjdabnglcabiaaGreatDoor
open Go.RowKit
def lenS : Value → Nat
 | .slice _ n _ => n
 | _ => 0
theorem row_shape {w : World} {base n size : Nat} {e : TypeId} {v : Value} {xs : List Value} (h : w.ownsRow base e size v n xs) : ∃ a cap, v = .slice a n cap := by
 rcases h with ⟨_, ⟨rfl, rfl⟩ | ⟨g, cap, cur, rfl, _⟩⟩
 ·exact ⟨none, 0, rfl⟩
 ·exact ⟨_, cap, rfl⟩
theorem addr_plus (g f j : Nat) : (⟨g, f, none⟩ : Addr).add j = ⟨g, f + j, none⟩ := by simp [Addr.add]
/-- One item more at the end of an own row, as a step of a region. -/
theorem wp_append_item {o : Oper} {a : Act} {w : World} {K : Act → World → Prop} {Q : Exit → Act → World → Prop} (s x : Operand)
  (ho : o.op = .call { callee := .builtin .append, args := #[s, x], argTypes := #[23, 23] }) (B : Nat) (v : Value) (n : Nat) (xs : List Value) (hs : a.eval s = v) (hown : w.ownsRow B 59 2 v n xs)
  (b : Nat) (t : ByteArray) (u : Int) (hx : a.eval x = .slice (some ⟨b, 0, none⟩) 1 1) (hb : Blk w b 59 #[.string t, .int .i64 u]) (hlen : n ≤ 2097152) (hB : B ≤ w.heap.size)
  (h : ∀ v' w', w'.ownsRow B 59 2 v' (n + 1) (xs ++ [.string t, .int .i64 u]) → w.grownBy w' v.ownBlock → K (a.put o.dst v') w') : o.wp Tryz.prog a w K Q := by
 obtain ⟨i0, hi, hz0, hz1, hz2⟩ := info_parts Tryz.infoItem
 refine wp_append_own w s x 23 ho B 59 i0 (.agg #[.string ⟨#[]⟩, .int .i64 0]) 2 24 Tryz.underlying23 hi hz0 hz1 hz2 rfl (by decide) v n xs hs hown ⟨b, 0, none⟩ 1 1 [.string t, .int .i64 u] hx rfl (fun j y hj => ?_) (by simp [Value.oneCell']) (by unfold maxLen; omega) (by omega) hB (fun v' w' h1 h2 _ => h v' w' h1 h2)
 rw [addr_plus, Nat.zero_add, hb.cell]
 simpa using hj
theorem made_item (w : World) (t : ByteArray) (u : Int) (B : Nat) (hB : B ≤ w.heap.size) : (w.alloc (.cells #[.string t, .int .i64 u] 59)).ownsRow B 59 2 (.slice (some ⟨w.heap.size, 0, none⟩) 1 1) 1 [.string t, .int .i64 u] :=
 ⟨rfl, .inr ⟨w.heap.size, 1, _, rfl, hB, World.alloc_heap_new w _, Nat.le_refl _, by simp [maxLen], rfl, rfl⟩⟩
theorem two_new (w : World) (a b : Value) (t : TypeId) : ∀ j u, [a, b][j]? = some u → (w.alloc (.cells #[a, b] t)).cell? ((⟨w.heap.size, 0, none⟩ : Addr).add j) = some u := fun j u h => by
 rw [addr_plus, Nat.zero_add, (Blk.new w t #[a, b]).cell]
 simpa using h
theorem rowI_snoc {w : World} {B : Nat} {v : Value} {its : Itms} {q : ByteArray × Int} (h : w.ownsRow B 59 2 v (its.length + 1) (cellsI its ++ [.string q.1, .int .i64 q.2])) : w.ownsRow B 59 2 v (its ++ [q]).length (cellsI (its ++ [q])) := by
 have e : cellsI (its ++ [q]) = cellsI its ++ [.string q.1, .int .i64 q.2] := by unfold cellsI; rw [List.flatMap_append]; rfl
 rw [e, List.length_append]; exact h
/-- A stretch of a row of texts. -/
structure TRow (w : World) (b off cap : Nat) (ps : List ByteArray) : Prop where
 le : ps.length ≤ cap
 top : cap ≤ 9223372036854775807
 lt : b < w.heap.size
 cell : ∀ i, i < ps.length → w.cell? ⟨b, off + i, none⟩ = some (.string (tv ps i))
theorem TRow.below {w w' : World} {b off cap : Nat} {ps : List ByteArray} (h : TRow w b off cap ps) (hb : Below w.heap.size w w') : TRow w' b off cap ps :=
 ⟨h.le, h.top, Nat.lt_of_lt_of_le h.lt hb.size, fun i hi => (hb.cell (p := ⟨b, off + i, none⟩) h.lt).trans (h.cell i hi)⟩
theorem TRow.take {w : World} {b off cap : Nat} {ps : List ByteArray} (h : TRow w b off cap ps) (k : Nat) : TRow w b off cap (ps.take k) :=
 ⟨by have := h.le; rw [List.length_take]; omega, h.top, h.lt, fun i hi => by
  rw [List.length_take] at hi
  rw [h.cell i (by omega)]
  simp [tv, show i < k by omega]⟩
theorem TRow.drop {w : World} {b off cap : Nat} {ps : List ByteArray} (h : TRow w b off cap ps) (k : Nat) : TRow w b (off + k) (cap - k) (ps.drop k) :=
 ⟨by have := h.le; rw [List.length_drop]; omega, by have := h.top; omega, h.lt, fun i hi => by
  rw [List.length_drop] at hi
  rw [Nat.add_assoc, h.cell (k + i) (by omega)]
  simp [tv]⟩
theorem trow_of {w : World} {B g cap : Nat} {ps : List ByteArray} (h : w.ownsRow B 9 1 (.slice (some ⟨g, 0, none⟩) ps.length cap) ps.length (ps.map Value.string)) : TRow w g 0 cap ps := by
 have hr := h
 rcases h with ⟨_, ⟨e, _⟩ | ⟨g', cap', cur, e, hb, hg, h4, h5, _⟩⟩
 ·cases e
 ·cases e
  refine ⟨h4, by unfold maxLen at h5; omega, (Array.getElem?_eq_some_iff.1 hg).1, fun i hi => ?_⟩
  rw [Nat.zero_add, hr.cellAt i (by omega)]
  simp [tv, hi]
/-- A stretch of a row of items that lies below B. -/
def IR (w : World) (B : Nat) (v : Value) (its : Itms) : Prop :=
 ∃ a cap, v = .slice a its.length cap ∧ its.length ≤ cap ∧ cap ≤ 9223372036854775807 ∧ ∀ i, i < its.length → ∃ g o, a = some ⟨g, o, none⟩ ∧ g < B ∧ w.cell? ⟨g, o + i * 2, none⟩ = some (.string (itx its i)) ∧ w.cell? ⟨g, o + i * 2 + 1, none⟩ = some (.int .i64 (itu its i))
theorem IR.below {w w' : World} {B : Nat} {v : Value} {its : Itms} (h : IR w B v its) (hb : Below B w w') : IR w' B v its := by
 obtain ⟨a, cap, e, h1, h2, hc⟩ := h
 refine ⟨a, cap, e, h1, h2, fun i hi => ?_⟩
 obtain ⟨g, o, ha, hl, c1, c2⟩ := hc i hi
 exact ⟨g, o, ha, hl, (hb.cell (p := ⟨g, o + i * 2, none⟩) hl).trans c1, (hb.cell (p := ⟨g, o + i * 2 + 1, none⟩) hl).trans c2⟩
theorem IR.of_row {w : World} {B : Nat} {v : Value} {its : Itms} (h : w.ownsRow B 59 2 v its.length (cellsI its)) : IR w w.heap.size v its := by
 have hr := h
 rcases h with ⟨_, ⟨rfl, h0⟩ | ⟨g, cap, cur, rfl, hb, hg, h4, h5, _⟩⟩
 ·have : its = [] := List.eq_nil_of_length_eq_zero h0
  subst this
  exact ⟨_, 0, rfl, Nat.le_refl _, by omega, fun i hi => absurd hi (by simp)⟩
 ·refine ⟨_, cap, rfl, h4, by unfold maxLen at h5; omega, fun i hi => ⟨g, 0, rfl, (Array.getElem?_eq_some_iff.1 hg).1, ?_, ?_⟩⟩
  ·rw [Nat.zero_add, hr.cellAt _ (by omega)]; exact (cellsI_at its i hi).1
  ·rw [Nat.zero_add, hr.cellAt _ (by omega)]; exact (cellsI_at its i hi).2
theorem IR.base {w : World} {B B' : Nat} {v : Value} {its : Itms} (h : IR w B v its) (hb : B ≤ B') : IR w B' v its := by
 obtain ⟨a, cap, e, h1, h2, hc⟩ := h
 refine ⟨a, cap, e, h1, h2, fun i hi => ?_⟩
 obtain ⟨g, o, ha, hl, c⟩ := hc i hi
 exact ⟨g, o, ha, by omega, c⟩
/-- The first of a stretch, and what is behind it. -/
theorem IR.cons {w : World} {B : Nat} {v : Value} {p : ByteArray × Int} {its : Itms} (h : IR w B v (p :: its)) :
  ∃ g o cap l, v = .slice (some ⟨g, o, none⟩) l cap ∧ g < B ∧ 1 ≤ l ∧ l ≤ cap ∧ cap ≤ 9223372036854775807 ∧ l ≤ its.length + 1 ∧ its.length + 1 ≤ l ∧ w.cell? ⟨g, o, none⟩ = some (.string p.1) ∧ w.cell? ⟨g, o + 1, none⟩ = some (.int .i64 p.2) ∧
   ∀ x, (cap = 1 ∨ x = some ⟨g, o + 2, none⟩) → IR w B (.slice x (l - 1) (cap - 1)) its := by
 obtain ⟨a, cap, e, h1, h2, hc⟩ := h
 obtain ⟨g, o, rfl, hl, c1, c2⟩ := hc 0 (by simp)
 rw [List.length_cons] at h1
 refine ⟨g, o, cap, its.length + 1, e, hl, by omega, h1, h2, Nat.le_refl _, Nat.le_refl _, by simpa [itx] using c1, by simpa [itu] using c2, fun x hx => ⟨x, cap - 1, rfl, by omega, by omega, fun i hi => ?_⟩⟩
 rcases hx with hx | rfl
 ·omega
 ·obtain ⟨g', o', e', _, d1, d2⟩ := hc (i + 1) (by simpa using hi)
  cases e'
  refine ⟨g, o + 2, rfl, hl, ?_, ?_⟩
  ·rw [show o + 2 + i * 2 = o + (i + 1) * 2 by omega]; exact d1
  ·rw [show o + 2 + i * 2 + 1 = o + (i + 1) * 2 + 1 by omega]; exact d2
theorem IR.nil {w : World} {B : Nat} {v : Value} (h : IR w B v []) : ∃ a cap, v = .slice a 0 cap := by
 obtain ⟨a, cap, e, _⟩ := h
 exact ⟨a, cap, e⟩
set_option maxRecDepth 100000 in
set_option maxHeartbeats 4000000 in
theorem l4Sorted_any : ∀ (f : Nat) (b off cap : Nat) (ps : List ByteArray) (wd : Int) (w : World), ps.length ≤ f → TRow w b off cap ps → ps.length ≤ 2000 → (∀ t ∈ ps, t.size ≤ 2000) →
  Calls Tryz.prog 67 #[.slice (some ⟨b, off, none⟩) ps.length cap, .int .i64 wd] w fun e w' => ∃ v' its, e = .returned v' ∧ its.length = ps.length ∧ (∀ p ∈ its, p.1.size ≤ 2000) ∧ w'.ownsRow w.heap.size 59 2 v' its.length (cellsI its) ∧ Below w.heap.size w w' := by
 intro f
 induction f with
 | zero =>
  intro b off cap ps wd w hf ht hl hs
  obtain rfl : ps = [] := List.eq_nil_of_length_eq_zero (by omega)
  have HO := hid (World.ownsRow_made (base := w.heap.size) (e := 59) (size := 2) w #[] 0 (Nat.le_refl _) (by simp [maxLen]) rfl)
  have HB := hid ((Below.refl w.heap.size w).alloc (Nat.le_refl _) (.cells #[] 59))
  clear ht hs
  go_enter Tryz.func67, Tryz.ntmps67
  go_wp2
  go_ret
  exact ⟨_, [], rfl, rfl, fun p hp => (by cases hp), HO.out, HB.out⟩
 | succ f ih =>
  intro b off cap ps wd w hf ht hl hs
  by_cases h0 : ps.length = 0
  ·obtain rfl : ps = [] := List.eq_nil_of_length_eq_zero h0
   exact ih b off cap [] wd w (Nat.zero_le _) ht hl hs
  by_cases h1 : ps.length = 1
  ·obtain ⟨t, rfl⟩ : ∃ t, ps = [t] := by
    match ps, h1 with
    | [t], _ => exact ⟨t, rfl⟩
   have hc : w.cell? ⟨b, off, none⟩ = some (.string t) := ht.cell 0 (by simp)
   have HO := hid (made_item w t 0 w.heap.size (Nat.le_refl _))
   have HB := hid ((Below.refl w.heap.size w).alloc (Nat.le_refl _) (.cells #[.string t, .int .i64 0] 59))
   have hcap := ht.le
   have HS := hid hs
   clear ht ih h0 h1 hs
   go_enter Tryz.func67, Tryz.ntmps67
   go_wp2
   go_ret
   exact ⟨_, [(t, 0)], rfl, rfl, fun p hp => (by rw [List.mem_singleton.1 hp]; exact HS.out t (by simp)), HO.out, HB.out⟩
  have hn2 : 2 ≤ ps.length := by omega
  obtain ⟨n, hn⟩ : ∃ n, n = ps.length := ⟨_, rfl⟩
  obtain ⟨k, hk⟩ : ∃ k, k = n / 2 := ⟨_, rfl⟩
  have hd1 : (ps.take k).length = k := by rw [List.length_take]; omega
  have hd2 : (ps.drop k).length = n - k := by rw [List.length_drop]; omega
  have HA := hid (ih b off cap (ps.take k) wd w (by omega) (ht.take k) (by omega) (fun t h => hs t (List.mem_of_mem_take h)))
  have HE := hid fun W (h : Below w.heap.size w W) => ih b (off + k) (cap - k) (ps.drop k) wd W (by omega) ((ht.below h).drop k) (by omega) (fun t h => hs t (List.mem_of_mem_drop h))
  rw [hd1] at HA
  rw [hd2] at HE
  have hcl := ht.le
  have htop := ht.top
  rw [← hn] at hcl ⊢
  have hq : ((n : Nat) : Int) / 2 = ((k : Nat) : Int) := by omega
  have hk1 : 1 ≤ k := by omega
  have hk2 : k < n := by omega
  have hkc : ¬ cap = k := by omega
  have hkc2 : ¬ cap < k := by omega
  have hn0 : (((n : Nat) : Int) == 0) = false := by simp; omega
  have hn1 : (((n : Nat) : Int) == 1) = false := by simp; omega
  have hnl : n ≤ 2000 := by omega
  have HN := hid hn
  clear hd1 hd2 ht hs ih hl hn hk hf h0 h1 hn2
  go_enter Tryz.func67, Tryz.ntmps67
  go_wp2_with fail
  refine HA.out.mono ?_
  rintro e w1 ⟨va, ia, rfl, la, sa, oa, ba⟩
  have HE1 := hid (HE.out w1 ba)
  have HBA := hid ba
  have HOA := hid oa
  have HSA := hid sa
  have HLA := hid la
  obtain ⟨aa, ca, rfl⟩ := row_shape oa
  clear HA HE la sa oa ba
  go_wp2_with fail
  refine HE1.out.mono ?_
  rintro e w2 ⟨vb, ib, rfl, lb, sb, ob, bb⟩
  have HIA := hid (((IR.of_row HOA.out).below bb).base bb.size)
  have HIB := hid (IR.of_row ob)
  have HB2 := hid (HBA.out.trans (bb.mono HBA.out.size))
  have HSB := hid sb
  have HLB := hid lb
  have HO := hid (World.ownsRow_made (base := w2.heap.size) (e := 59) (size := 2) w2 #[] 0 (Nat.le_refl _) (by simp [maxLen]) rfl)
  obtain ⟨ab, cb, rfl⟩ := row_shape ob
  obtain ⟨i0, hi0, hz0, hz1, hz2⟩ := info_parts Tryz.infoItem
  clear HE1 HBA HOA lb sb ob bb hq hkc hkc2 hn0 hn1
  go_wp2
  go_loopw [5, 6, 7] (fun xa xb xo wr => ∃ (ja jb jo : Itms), IR wr w2.heap.size xa ja ∧ IR wr w2.heap.size xb jb ∧ wr.ownsRow w2.heap.size 59 2 xo jo.length (cellsI jo) ∧ ja.length + jb.length + jo.length ≤ n ∧ n ≤ ja.length + jb.length + jo.length ∧ (∀ p ∈ ja, p.1.size ≤ 2000) ∧ (∀ p ∈ jb, p.1.size ≤ 2000) ∧ (∀ p ∈ jo, p.1.size ≤ 2000) ∧ Below w2.heap.size w2 wr) (fun xa xb _ _ => lenS xa + lenS xb)
  case atStart => exact ⟨ia, ib, [], HIA.out.below ((Below.refl _ _).alloc (Nat.le_refl _) _), HIB.out.below ((Below.refl _ _).alloc (Nat.le_refl _) _), HO.out, by have := HLA.out; have := HLB.out; simp; omega, by have := HLA.out; have := HLB.out; simp; omega, HSA.out, HSB.out, fun p hp => (by cases hp), (Below.refl _ _).alloc (Nat.le_refl _) _⟩
  case round =>
   clear HIA HIB HSA HSB HLA HLB HO
   obtain ⟨ja, jb, jo, hja0, hjb0, hro, hn1, hn2, sa, sb, so, hbl⟩ := hrel
   obtain ⟨ao, co, rfl⟩ := row_shape hro
   obtain ⟨w5, hw5⟩ : ∃ x, x = wr.drew := ⟨_, rfl⟩
   have hbd : Below wr.heap.size wr w5 := by rw [hw5]; exact below_drewN (Below.refl _ _) 1
   have hja : IR w5 w2.heap.size _ ja := hja0.below (hbd.mono hbl.size)
   have hjb : IR w5 w2.heap.size _ jb := hjb0.below (hbd.mono hbl.size)
   have HRW := hid hro
   have HBW := hid hbl
   have HRO := hid (Below.row hbd hro)
   have HJA := hid hja
   have HJB := hid hjb
   have HSA := hid sa
   have HSB := hid sb
   have HSO := hid so
   have HBL := hid (hbl.trans (hbd.mono hbl.size))
   have hsw := HBL.out.size
   clear hro sa sb so hbl hbd hja0 hjb0
   match ja, jb, hja, hjb with
   | [], [], hja, hjb =>
    obtain ⟨xa, ka, rfl⟩ := hja.nil
    obtain ⟨xb, kb, rfl⟩ := hjb.nil
    clear hja hjb HJA HJB HSA HSB hw5
    go_wp2
    go_ret
    exact ⟨_, jo, rfl, by have := HN.out; simp at hn1 hn2; omega, HSO.out, ownsRow_base HRW.out HB2.out.size, HB2.out.trans (HBW.out.mono HB2.out.size)⟩
   | pa :: ja, [], hja, hjb =>
    obtain ⟨ga, oa, ka, la, rfl, hgl, hl1, hl2, hk, hla1, hla2, c0, c1, hT⟩ := hja.cons
    obtain ⟨xb, kb, rfl⟩ := hjb.nil
    have TA := hid hT
    have hnn : jo.length ≤ 2000 := by omega
    have hl0 : 0 < la := by omega
    obtain ⟨JB, hJB⟩ : ∃ x : Itms, x = [] := ⟨_, rfl⟩
    rw [← hJB] at HJB HSB hn1 hn2
    clear hT hja hjb hJB
    go_wp2_with fail
    refine wp_region_held (S := fun _ => True) (by kernel_rfl) ?_
    change wpAnyH _ _ _ _ _ _ _ _ (World.drew _)
    rw [← hw5]
    clear hw5
    refine tkA 0 (.slice xb 0 kb) rfl trivial ?_
    refine tkA 1 (.int .i64 0) rfl trivial ?_
    refine tkA 2 (.bool true) rfl trivial ?_
    refine tkA 3 (.bool true) rfl trivial ?_
    refine tkO 4 rfl trivial ?_
    refine tkO 5 rfl trivial ?_
    refine tkO 6 rfl trivial ?_
    refine tkO 7 rfl trivial ?_
    refine tkO 8 rfl trivial ?_
    refine tkO 9 rfl trivial ?_
    refine tkO 10 rfl trivial ?_
    refine tkO 11 rfl trivial ?_
    refine tkO 12 rfl trivial ?_
    refine tkO 13 rfl trivial ?_
    refine tkO 14 rfl trivial ?_
    refine tkO 15 rfl trivial ?_
    refine tkO 16 rfl trivial ?_
    refine tkO 17 rfl trivial ?_
    refine tkO 18 rfl trivial ?_
    refine tkO 19 rfl trivial ?_
    refine tkO 20 rfl trivial ?_
    refine tkO 21 rfl trivial ?_
    refine tkA 22 (.bool true) rfl trivial ?_
    refine wpAnyH_done (by kernel_rfl) ?_ _
    go_simp
    obtain ⟨x, hx, hxc⟩ : ∃ x, (if ka = 1 then some (⟨ga, oa, none⟩ : Addr) else some ⟨ga, oa + 2, none⟩) = x ∧ (ka = 1 ∨ x = some ⟨ga, oa + 2, none⟩) := by
     by_cases h : ka = 1
     ·exact ⟨_, rfl, .inl h⟩
     ·exact ⟨_, rfl, .inr (if_neg h)⟩
    have HT := hid (TA.out x hxc)
    clear hxc
    go_wp2_with (at_builtin; refine wpList_append_own _ rfl _ _ 23 rfl w2.heap.size 59 i0 (.agg #[.string ⟨#[]⟩, .int .i64 0]) 2 24 Tryz.underlying23 hi0 hz0 hz1 hz2 rfl (by decide) (.slice ao jo.length co) jo.length (cellsI jo) rfl (HRO.out.alloc _) ⟨_, 0, none⟩ 1 1 [.string pa.1, .int .i64 pa.2] rfl rfl (two_new _ _ _ _) (by simp [Value.oneCell']) (by unfold maxLen; omega) (by omega) (by rw [World.size_alloc]; omega) ?_; intro v8 w8 ho8 hg8 _)
    have hb9 : Below w2.heap.size w5 w8 := ((Below.refl _ w5).alloc hsw (.cells #[.string pa.1, .int .i64 pa.2] 59)).grown hg8 (by rw [World.size_alloc]; omega) (fun g e => (HRO.out.lt g e).1)
    have HW9 := hid (rowI_snoc ho8)
    refine ⟨⟨ja, JB, jo ++ [pa], HT.out.below hb9, HJB.out.below hb9, HW9.out, by simp at hn1 ⊢; omega, by simp at hn2 ⊢; omega, fun q hq => HSA.out q (List.mem_cons_of_mem _ hq), HSB.out, fun q hq => ?_, HBL.out.trans hb9⟩, by simp [lenS]; omega⟩
    rcases List.mem_append.1 hq with hq | hq
    ·exact HSO.out q hq
    ·rw [List.mem_singleton.1 hq]; exact HSA.out _ List.mem_cons_self
   | [], pb :: jb, hja, hjb =>
    obtain ⟨gb, ob, kb, lb, rfl, hgl, hl1, hl2, hk, hla1, hla2, c0, c1, hT⟩ := hjb.cons
    obtain ⟨xa, ka, rfl⟩ := hja.nil
    have TB := hid hT
    have hnn : jo.length ≤ 2000 := by omega
    have hl0 : 0 < lb := by omega
    have hlb : (((lb : Nat) : Int) == 0) = false := by simp; omega
    obtain ⟨JA, hJA⟩ : ∃ x : Itms, x = [] := ⟨_, rfl⟩
    rw [← hJA] at HJA HSA hn1 hn2
    clear hT hja hjb hJA
    go_wp2_with fail
    refine wp_region_held (S := fun _ => True) (by kernel_rfl) ?_
    change wpAnyH _ _ _ _ _ _ _ _ (World.drew _)
    rw [← hw5]
    clear hw5
    refine tkA 0 (.slice (some ⟨gb, ob, none⟩) lb kb) rfl trivial ?_
    refine tkA 1 (.int .i64 (lb : Nat)) rfl trivial ?_
    refine tkA 2 (.bool false) rfl trivial ?_
    refine tkA 3 (.bool false) rfl trivial ?_
    refine tkG 4 (.slice xa 0 ka) rfl trivial ?_
    refine tkG 5 (.int .i64 0) rfl trivial ?_
    refine tkG 6 (.bool false) rfl trivial ?_
    refine tkG 7 (.bool false) rfl trivial ?_
    refine tkO 8 rfl trivial ?_
    refine tkO 9 rfl trivial ?_
    refine tkO 10 rfl trivial ?_
    refine tkO 11 rfl trivial ?_
    refine tkO 12 rfl trivial ?_
    refine tkO 13 rfl trivial ?_
    refine tkO 14 rfl trivial ?_
    refine tkO 15 rfl trivial ?_
    refine tkO 16 rfl trivial ?_
    refine tkO 17 rfl trivial ?_
    refine tkO 18 rfl trivial ?_
    refine tkO 19 rfl trivial ?_
    refine tkO 20 rfl trivial ?_
    refine tkG 21 (.bool false) rfl trivial ?_
    refine tkA 22 (.bool false) rfl trivial ?_
    refine wpAnyH_done (by kernel_rfl) ?_ _
    go_simp
    obtain ⟨x, hx, hxc⟩ : ∃ x, (if kb = 1 then some (⟨gb, ob, none⟩ : Addr) else some ⟨gb, ob + 2, none⟩) = x ∧ (kb = 1 ∨ x = some ⟨gb, ob + 2, none⟩) := by
     by_cases h : kb = 1
     ·exact ⟨_, rfl, .inl h⟩
     ·exact ⟨_, rfl, .inr (if_neg h)⟩
    have HT := hid (TB.out x hxc)
    clear hxc
    go_wp2_with (at_builtin; refine wpList_append_own _ rfl _ _ 23 rfl w2.heap.size 59 i0 (.agg #[.string ⟨#[]⟩, .int .i64 0]) 2 24 Tryz.underlying23 hi0 hz0 hz1 hz2 rfl (by decide) (.slice ao jo.length co) jo.length (cellsI jo) rfl (HRO.out.alloc _) ⟨_, 0, none⟩ 1 1 [.string pb.1, .int .i64 pb.2] rfl rfl (two_new _ _ _ _) (by simp [Value.oneCell']) (by unfold maxLen; omega) (by omega) (by rw [World.size_alloc]; omega) ?_; intro v8 w8 ho8 hg8 _)
    have hb9 : Below w2.heap.size w5 w8 := ((Below.refl _ w5).alloc hsw (.cells #[.string pb.1, .int .i64 pb.2] 59)).grown hg8 (by rw [World.size_alloc]; omega) (fun g e => (HRO.out.lt g e).1)
    have HW9 := hid (rowI_snoc ho8)
    refine ⟨⟨JA, jb, jo ++ [pb], HJA.out.below hb9, HT.out.below hb9, HW9.out, by simp at hn1 ⊢; omega, by simp at hn2 ⊢; omega, HSA.out, fun q hq => HSB.out q (List.mem_cons_of_mem _ hq), fun q hq => ?_, HBL.out.trans hb9⟩, by simp [lenS]; omega⟩
    rcases List.mem_append.1 hq with hq | hq
    ·exact HSO.out q hq
    ·rw [List.mem_singleton.1 hq]; exact HSB.out _ List.mem_cons_self
   | pa :: ja, pb :: jb, hja, hjb =>
    obtain ⟨ga, oa, ka, la, rfl, hgla, hla1, hla2, hka, hla3, hla4, c0, c1, hTA⟩ := hja.cons
    obtain ⟨gb, ob, kb, lb, rfl, hglb, hlb1, hlb2, hkb, hlb3, hlb4, d0, d1, hTB⟩ := hjb.cons
    have TA := hid hTA
    have TB := hid hTB
    have hnn : jo.length ≤ 2000 := by omega
    have hl0 : 0 < la := by omega
    have hl0b : 0 < lb := by omega
    have hlb : (((lb : Nat) : Int) == 0) = false := by simp; omega
    have hpa : pa.1.size ≤ maxLen := by have := HSA.out pa List.mem_cons_self; unfold maxLen; omega
    have hpb : pb.1.size ≤ maxLen := by have := HSB.out pb List.mem_cons_self; unfold maxLen; omega
    have hS5 : w5.cell? ⟨ga, oa, none⟩ = some (.string pa.1) ∧ w5.cell? ⟨gb, ob, none⟩ = some (.string pb.1) := ⟨c0, d0⟩
    have HCC : Hid (w5.cell? ⟨ga, oa, none⟩ = some (.string pa.1) ∧ w5.cell? ⟨ga, oa + 1, none⟩ = some (.int .i64 pa.2) ∧ w5.cell? ⟨gb, ob, none⟩ = some (.string pb.1) ∧ w5.cell? ⟨gb, ob + 1, none⟩ = some (.int .i64 pb.2)) := ⟨c0, c1, d0, d1⟩
    clear hTA hTB hja hjb c0 c1 d0 d1
    go_wp2_with fail
    refine wp_region_held (S := fun w' => w'.cell? ⟨ga, oa, none⟩ = some (.string pa.1) ∧ w'.cell? ⟨gb, ob, none⟩ = some (.string pb.1)) (by kernel_rfl) ?_
    change wpAnyH _ _ _ _ _ _ _ _ (World.drew _)
    rw [← hw5]
    clear hw5
    refine tkA 0 (.slice (some ⟨gb, ob, none⟩) lb kb) rfl hS5 ?_
    refine tkA 1 (.int .i64 (lb : Nat)) rfl hS5 ?_
    refine tkA 2 (.bool false) rfl hS5 ?_
    refine tkA 3 (.bool false) rfl hS5 ?_
    refine tkG 4 (.slice (some ⟨ga, oa, none⟩) la ka) rfl hS5 ?_
    refine tkG 5 (.int .i64 (la : Nat)) rfl hS5 ?_
    refine tkG 6 (.bool true) rfl hS5 ?_
    refine tkG 7 (.bool true) rfl hS5 ?_
    refine tkG 8 (.slice (some ⟨ga, oa, none⟩) la ka) rfl hS5 ?_
    refine tkG 9 (.pointer (some ⟨ga, oa, none⟩)) rfl hS5 ?_
    refine tkG 10 (.pointer (some ⟨ga, oa, none⟩)) rfl hS5 ?_
    refine tkG 11 (.string pa.1) rfl hS5 ?_
    refine tkG 12 (.int .i64 wd) rfl hS5 ?_
    refine tkG 14 (.slice (some ⟨gb, ob, none⟩) lb kb) rfl hS5 ?_
    refine tkG 15 (.pointer (some ⟨gb, ob, none⟩)) rfl hS5 ?_
    refine tkG 16 (.pointer (some ⟨gb, ob, none⟩)) rfl hS5 ?_
    refine tkG 17 (.string pb.1) rfl hS5 ?_
    refine tkG 18 (.int .i64 wd) rfl hS5 ?_
    refine held_one 13 (by kernel_rfl) ?_
    refine @op_wpW _ _ _ _ _ _ 13 ?oa ?hoa ?hwa ?hha
    case hoa => rfl
    case hwa => go_simp
    unfold Oper.wp
    go_simp
    refine (specSum_any pa.1 wd w5 hpa).mono ?_
    rintro e w6 ⟨rfl, hb6⟩
    have hS6 : w6.cell? ⟨ga, oa, none⟩ = some (.string pa.1) ∧ w6.cell? ⟨gb, ob, none⟩ = some (.string pb.1) := ⟨(hb6.cell (p := ⟨ga, oa, none⟩) (by show ga < _; omega)).trans HCC.out.1, (hb6.cell (p := ⟨gb, ob, none⟩) (by show gb < _; omega)).trans HCC.out.2.2.1⟩
    refine ⟨hS6, ?_⟩
    generalize (⟨(sumOf pa.1.data.toList wd).toArray⟩ : ByteArray) = q1
    refine held_one 19 (by kernel_rfl) ?_
    refine @op_wpW _ _ _ _ _ _ 19 ?ob ?hob ?hwb ?hhb
    case hob => rfl
    case hwb => go_simp
    unfold Oper.wp
    go_simp
    refine (specSum_any pb.1 wd w6 hpb).mono ?_
    rintro e w7 ⟨rfl, hb7⟩
    have hb67 := hb6.trans (hb7.mono hb6.size)
    have hS7 : w7.cell? ⟨ga, oa, none⟩ = some (.string pa.1) ∧ w7.cell? ⟨gb, ob, none⟩ = some (.string pb.1) := ⟨(hb67.cell (p := ⟨ga, oa, none⟩) (by show ga < _; omega)).trans HCC.out.1, (hb67.cell (p := ⟨gb, ob, none⟩) (by show gb < _; omega)).trans HCC.out.2.2.1⟩
    refine ⟨hS7, ?_⟩
    generalize (⟨(sumOf pb.1.data.toList wd).toArray⟩ : ByteArray) = q2
    have hb2 : Below w2.heap.size w5 w7 := hb67.mono hsw
    have HRO7 := hid (Below.row hb67 HRO.out)
    have HJA7 := hid (HJA.out.below hb2)
    have HJB7 := hid (HJB.out.below hb2)
    have TA7 := hid fun x h => (TA.out x h).below hb2
    have TB7 := hid fun x h => (TB.out x h).below hb2
    have HBL7 := hid (HBL.out.trans hb2)
    have hsw7 := Nat.le_trans hsw hb67.size
    have c0 : w7.cell? ⟨ga, oa, none⟩ = some (.string pa.1) := hS7.1
    have d0 : w7.cell? ⟨gb, ob, none⟩ = some (.string pb.1) := hS7.2
    have c1 := (hb67.cell (p := ⟨ga, oa + 1, none⟩) (by show ga < _; omega)).trans HCC.out.2.1
    have d1 := (hb67.cell (p := ⟨gb, ob + 1, none⟩) (by show gb < _; omega)).trans HCC.out.2.2.2
    clear hb6 hb7 hb67 hb2 hS5 hS6 HRO HJA HJB TA TB HBL hsw HCC 
    cases hlt : Op.bytesLess q1.toList q2.toList with
    | true =>
     refine tkG 20 (.bool true) rfl hS7 ?_
     refine tkG 21 (.bool true) rfl hS7 ?_
     refine tkA 22 (.bool true) rfl hS7 ?_
     refine wpAnyH_done (by kernel_rfl) ?_ _
     clear hS7 hlt d0 d1
     go_simp
     obtain ⟨x, hx, hxc⟩ : ∃ x, (if ka = 1 then some (⟨ga, oa, none⟩ : Addr) else some ⟨ga, oa + 2, none⟩) = x ∧ (ka = 1 ∨ x = some ⟨ga, oa + 2, none⟩) := by
      by_cases h : ka = 1
      ·exact ⟨_, rfl, .inl h⟩
      ·exact ⟨_, rfl, .inr (if_neg h)⟩
     have HT := hid (TA7.out x hxc)
     clear hxc
     go_wp2_with (at_builtin; refine wpList_append_own _ rfl _ _ 23 rfl w2.heap.size 59 i0 (.agg #[.string ⟨#[]⟩, .int .i64 0]) 2 24 Tryz.underlying23 hi0 hz0 hz1 hz2 rfl (by decide) (.slice ao jo.length co) jo.length (cellsI jo) rfl (HRO7.out.alloc _) ⟨_, 0, none⟩ 1 1 [.string pa.1, .int .i64 pa.2] rfl rfl (two_new _ _ _ _) (by simp [Value.oneCell']) (by unfold maxLen; omega) (by omega) (by rw [World.size_alloc]; omega) ?_; intro v8 w8 ho8 hg8 _)
     have hb9 : Below w2.heap.size w7 w8 := ((Below.refl _ w7).alloc hsw7 (.cells #[.string pa.1, .int .i64 pa.2] 59)).grown hg8 (by rw [World.size_alloc]; omega) (fun g e => (HRO7.out.lt g e).1)
     have HW9 := hid (rowI_snoc ho8)
     refine ⟨⟨ja, (pb :: jb), jo ++ [pa], HT.out.below hb9, HJB7.out.below hb9, HW9.out, by simp at hn1 ⊢; omega, by simp at hn2 ⊢; omega, fun q hq => HSA.out q (List.mem_cons_of_mem _ hq), HSB.out, fun q hq => ?_, HBL7.out.trans hb9⟩, by simp [lenS]; omega⟩
     rcases List.mem_append.1 hq with hq | hq
     ·exact HSO.out q hq
     ·rw [List.mem_singleton.1 hq]; exact HSA.out _ List.mem_cons_self
    | false =>
     refine tkG 20 (.bool false) rfl hS7 ?_
     refine tkG 21 (.bool false) rfl hS7 ?_
     refine tkA 22 (.bool false) rfl hS7 ?_
     refine wpAnyH_done (by kernel_rfl) ?_ _
     clear hS7 hlt c0 c1
     go_simp
     obtain ⟨x, hx, hxc⟩ : ∃ x, (if kb = 1 then some (⟨gb, ob, none⟩ : Addr) else some ⟨gb, ob + 2, none⟩) = x ∧ (kb = 1 ∨ x = some ⟨gb, ob + 2, none⟩) := by
      by_cases h : kb = 1
      ·exact ⟨_, rfl, .inl h⟩
      ·exact ⟨_, rfl, .inr (if_neg h)⟩
     have HT := hid (TB7.out x hxc)
     clear hxc
     go_wp2_with (at_builtin; refine wpList_append_own _ rfl _ _ 23 rfl w2.heap.size 59 i0 (.agg #[.string ⟨#[]⟩, .int .i64 0]) 2 24 Tryz.underlying23 hi0 hz0 hz1 hz2 rfl (by decide) (.slice ao jo.length co) jo.length (cellsI jo) rfl (HRO7.out.alloc _) ⟨_, 0, none⟩ 1 1 [.string pb.1, .int .i64 pb.2] rfl rfl (two_new _ _ _ _) (by simp [Value.oneCell']) (by unfold maxLen; omega) (by omega) (by rw [World.size_alloc]; omega) ?_; intro v8 w8 ho8 hg8 _)
     have hb9 : Below w2.heap.size w7 w8 := ((Below.refl _ w7).alloc hsw7 (.cells #[.string pb.1, .int .i64 pb.2] 59)).grown hg8 (by rw [World.size_alloc]; omega) (fun g e => (HRO7.out.lt g e).1)
     have HW9 := hid (rowI_snoc ho8)
     refine ⟨⟨(pa :: ja), jb, jo ++ [pb], HJA7.out.below hb9, HT.out.below hb9, HW9.out, by simp at hn1 ⊢; omega, by simp at hn2 ⊢; omega, HSA.out, fun q hq => HSB.out q (List.mem_cons_of_mem _ hq), fun q hq => ?_, HBL7.out.trans hb9⟩, by simp [lenS]; omega⟩
     rcases List.mem_append.1 hq with hq | hq
     ·exact HSO.out q hq
     ·rw [List.mem_singleton.1 hq]; exact HSB.out _ List.mem_cons_self
end Go.Proofs.YtkjdabnglcabiaaGreatDoor
