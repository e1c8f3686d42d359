/- impl.stretch: those of an ascending list from a text to another, in its own memory. -/
import Derived.Test.YtnpfnafalkejnaaSearchJoin
namespace Go.Proofs.Ytnpfnafalkejnaa
open Go.RowKit
/-- A slice that reads as a list of texts, with its room. -/
def Rdc (w : World) (v : Value) (ps : List ByteArray) : Prop :=
  ∃ a cap, v = .slice a ps.length cap ∧ ps.length ≤ cap ∧ (ps = [] ∨ ∃ b off, a = some ⟨b, off, none⟩ ∧ b < w.heap.size ∧ ∀ i, i < ps.length → w.cell? ⟨b, off + i, none⟩ = some (.string (tv ps i)))
theorem Rdc.below {w w' : World} {v : Value} {ps : List ByteArray} (h : Rdc w v ps) (hb : Below w.heap.size w w') : Rdc w' v ps := by
  obtain ⟨a, cap, e, hc, h⟩ := h
  refine ⟨a, cap, e, hc, ?_⟩
  rcases h with h | ⟨b, off, ha, hl, hx⟩
  · exact .inl h
  · exact .inr ⟨b, off, ha, Nat.lt_of_lt_of_le hl hb.size, fun i hi => (hb.cell (p := ⟨b, off + i, none⟩) hl).trans (hx i hi)⟩
theorem Rdc.reads {w : World} {v : Value} {ps : List ByteArray} (h : Rdc w v ps) : Reads w v ps := by
  obtain ⟨a, cap, rfl, hc, h⟩ := h
  rcases h with rfl | ⟨b, off, rfl, hl, hx⟩
  · exact .inl ⟨rfl, a, cap, rfl⟩
  · exact .inr ⟨b, off, cap, rfl, hl, hx⟩
theorem Rdc.of_row {w : World} {base : Nat} {v : Value} {ps : List ByteArray} (h : w.ownsRow base 9 1 v ps.length (ps.map Value.string)) : Rdc w v ps := by
  have hr := Reads.of_row h
  rcases h with ⟨_, ⟨rfl, hn⟩ | ⟨g, cap, cur, rfl, hb, hg, hn, hm, hs, hx⟩⟩
  · exact ⟨none, 0, by rw [hn], by omega, .inl (List.eq_nil_of_length_eq_zero hn)⟩
  · refine ⟨_, cap, rfl, by omega, ?_⟩
    rcases hr with ⟨e, _⟩ | ⟨b, off, c, e, hl, hc⟩
    · exact .inl e
    · cases e; exact .inr ⟨g, 0, rfl, hl, hc⟩
set_option maxRecDepth 100000 in
set_option maxHeartbeats 1000000 in
theorem stretch_any (v : Value) (ts : List ByteArray) (f t : ByteArray) (w : World) (hv : Rdc w v ts) (hA : Asc ts) (hl : ts.length ≤ 1048576) :
    Calls Try.prog 40 #[v, .string f, .string t] w fun e w' => ∃ v', e = .returned v' ∧ Rdc w' v' (fromTo f t ts) ∧ Below w.heap.size w w' := by
  obtain ⟨a, cap, rfl, hcap, hx⟩ := hv
  have hkl := cutN_le f ts
  have HE : Hid (t.toList = [] → fromTo f t ts = ts.drop (cutN f ts)) := fromTo_all f t ts hA
  have HC : Hid (¬ t.toList = [] → fromTo f t ts = (ts.drop (cutN f ts)).take (cutN t (ts.drop (cutN f ts)))) := fromTo_cut f t ts hA
  rcases hx with rfl | ⟨b, off, rfl, hb, hx⟩
  · have hn : fromTo f t [] = [] := rfl
    rw [hn]
    by_cases ht : t.toList = []
    · have et : t = ⟨#[]⟩ := text_eq (ht.trans (by simp [ByteArray.toList_eq]))
      subst et
      clear HE HC
      go_enter Try.func40, Try.ntmps40
      go_wp2_with (go_at_call 49; refine (search_none _ _ _ _).mono ?_; rintro e w ⟨rfl, rfl⟩)
      go_ret
      exact ⟨_, rfl, ⟨_, _, rfl, by simp, .inl rfl⟩, Below.refl _ _⟩
    · have het : (t.toList == []) = false := by simpa using ht
      clear HE HC
      go_enter Try.func40, Try.ntmps40
      go_wp2_with (go_at_call 49; refine (search_none _ _ _ _).mono ?_; rintro e w ⟨rfl, rfl⟩)
      go_ret
      exact ⟨_, rfl, ⟨_, _, rfl, by simp, .inl rfl⟩, Below.refl _ _⟩
  · have HS1 := hid (search_any b off cap ts f w hA hl hx)
    have hdl : (ts.drop (cutN f ts)).length = ts.length - cutN f ts := List.length_drop
    have hxd : ∀ i, i < (ts.drop (cutN f ts)).length → w.cell? ⟨b, off + cutN f ts + i, none⟩ = some (.string (tv (ts.drop (cutN f ts)) i)) := fun i hi => by
      rw [Nat.add_assoc, hx (cutN f ts + i) (by omega)]
      simp [tv]
    have HA := hid (asc_drop hA (cutN f ts))
    generalize ts.drop (cutN f ts) = ds at *
    generalize cutN f ts = k at *
    clear hx hA
    by_cases hkn : k = ts.length
    · have hd0 : ds = [] := List.eq_nil_of_length_eq_zero (by omega)
      subst hd0
      subst hkn
      clear hxd hdl
      by_cases ht : t.toList = []
      · have HF := hid (HE.out ht)
        have et : t = ⟨#[]⟩ := text_eq (ht.trans (by simp [ByteArray.toList_eq]))
        subst et
        by_cases hcn : cap = ts.length
        · subst hcn
          go_enter Try.func40, Try.ntmps40
          go_wp2_with fail
          refine HS1.out.mono ?_
          rintro e w1 ⟨⟨q, rfl, _⟩, n, rfl⟩
          go_wp2
          go_ret
          exact ⟨_, rfl, by rw [HF.out]; exact ⟨_, _, rfl, by simp, .inl rfl⟩, below_drewN (Below.refl _ _) _⟩
        · go_enter Try.func40, Try.ntmps40
          go_wp2_with fail
          refine HS1.out.mono ?_
          rintro e w1 ⟨⟨q, rfl, _⟩, n, rfl⟩
          go_wp2
          go_ret
          exact ⟨_, rfl, by rw [HF.out]; exact ⟨_, _, rfl, by simp, .inl rfl⟩, below_drewN (Below.refl _ _) _⟩
      · have het : (t.toList == []) = false := by simpa using ht
        have HF := hid ((HC.out ht).trans List.take_nil)
        by_cases hcn : cap = ts.length
        · subst hcn
          go_enter Try.func40, Try.ntmps40
          go_wp2_with fail
          refine HS1.out.mono ?_
          rintro e w1 ⟨⟨q, rfl, _⟩, n, rfl⟩
          go_wp2_with (go_at_call 49; refine (search_none _ _ _ _).mono ?_; rintro e w ⟨rfl, rfl⟩)
          go_ret
          exact ⟨_, rfl, by rw [HF.out]; exact ⟨_, _, rfl, by simp, .inl rfl⟩, below_drewN (Below.refl _ _) _⟩
        · have hc2 : ¬ (cap ≤ ts.length) := by omega
          have hc3 : ¬ (cap - ts.length = 0) := by omega
          go_enter Try.func40, Try.ntmps40
          go_wp2_with fail
          refine HS1.out.mono ?_
          rintro e w1 ⟨⟨q, rfl, _⟩, n, rfl⟩
          go_wp2_with (go_at_call 49; refine (search_none _ _ _ _).mono ?_; rintro e w ⟨rfl, rfl⟩)
          go_ret
          exact ⟨_, rfl, by rw [HF.out]; exact ⟨_, _, rfl, by simp, .inl rfl⟩, below_drewN (Below.refl _ _) _⟩
    · have h1 : ¬ (cap = k) := by omega
      have h2 : ¬ (cap ≤ k) := by omega
      have h3 : ¬ (cap - k = 0) := by omega
      by_cases ht : t.toList = []
      · have HF := hid (HE.out ht)
        have et : t = ⟨#[]⟩ := text_eq (ht.trans (by simp [ByteArray.toList_eq]))
        subst et
        have HXD := hid hxd
        clear hxd
        go_enter Try.func40, Try.ntmps40
        go_wp2_with fail
        refine HS1.out.mono ?_
        rintro e w1 ⟨⟨q, rfl, _⟩, n, rfl⟩
        go_wp2
        go_ret
        exact ⟨_, rfl, by rw [HF.out]; exact ⟨some ⟨b, off + k, none⟩, cap - k, by rw [hdl]; rfl, by omega, .inr ⟨b, off + k, rfl, hb, HXD.out⟩⟩, below_drewN (Below.refl _ _) _⟩
      · have het : (t.toList == []) = false := by simpa using ht
        have HF := hid (HC.out ht)
        have HS2 := hid fun (n : Nat) => search_any b (off + k) (cap - k) ds t (w.drewN n) HA.out (by omega) hxd
        have hj := cutN_le t ds
        rw [hdl] at HS2
        have htk : (ds.take (cutN t ds)).length = cutN t ds := by rw [List.length_take]; omega
        have HXT : Hid (∀ i, i < (ds.take (cutN t ds)).length → w.cell? ⟨b, off + k + i, none⟩ = some (.string (tv (ds.take (cutN t ds)) i))) := fun i hi => by
          rw [hxd i (by omega)]
          simp [tv, show i < cutN t ds by omega]
        have HXD := hid hxd
        clear hxd
        generalize ds.take (cutN t ds) = es at *
        generalize cutN t ds = j at *
        go_enter Try.func40, Try.ntmps40
        go_wp2_with fail
        refine HS1.out.mono ?_
        rintro e w1 ⟨⟨q, rfl, _⟩, n, rfl⟩
        go_wp2_with fail
        refine (HS2.out n).mono ?_
        rintro e w2 ⟨⟨q2, rfl, _⟩, n2, rfl⟩
        go_wp2
        go_ret
        exact ⟨_, rfl, by rw [HF.out]; exact ⟨some ⟨b, off + k, none⟩, cap - k, by rw [htk]; rfl, by omega, .inr ⟨b, off + k, rfl, hb, HXT.out⟩⟩, below_drewN (Below.refl _ _) _⟩
end Go.Proofs.Ytnpfnafalkejnaa
