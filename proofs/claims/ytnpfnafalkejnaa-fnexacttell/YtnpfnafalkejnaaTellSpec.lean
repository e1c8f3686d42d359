/- spec.Tell tells of a stretch. -/
import Derived.Test.YtnpfnafalkejnaaSetOk
import Derived.Test.YtnpfnafalkejnaaSetThere
import Derived.Test.YtnpfnafalkejnaaSetMix
import Derived.Test.YtnpfnafalkejnaaBlk
namespace Go.Proofs.Ytnpfnafalkejnaa
open Go.RowKit
/-- What Tell answers. -/
def TellR (f t : ByteArray) (n : Int) (ts : List ByteArray) (f' t' : ByteArray) (c : Int) (m : ByteArray) : Prop :=
  (IsSet n ts ∧ f' = f ∧ t' = t ∧ c = (fromTo f t ts).length ∧ m = mixB n (fromTo f t ts)) ∨ (¬ IsSet n ts ∧ f' = ⟨#[]⟩ ∧ t' = ⟨#[]⟩ ∧ c = 0 ∧ m = ⟨#[]⟩)
theorem TellR.same {f t : ByteArray} {n : Int} {ts : List ByteArray} {f1 t1 m1 f2 t2 m2 : ByteArray} {c1 c2 : Int} (h : TellR f t n ts f1 t1 c1 m1) (k : TellR f t n ts f2 t2 c2 m2) : f1 = f2 ∧ t1 = t2 ∧ c1 = c2 ∧ m1 = m2 := by
  rcases h with ⟨h, rfl, rfl, rfl, rfl⟩ | ⟨h, rfl, rfl, rfl, rfl⟩ <;> rcases k with ⟨k, rfl, rfl, rfl, rfl⟩ | ⟨k, rfl, rfl, rfl, rfl⟩
  · exact ⟨rfl, rfl, rfl, rfl⟩
  · exact absurd h k
  · exact absurd k h
  · exact ⟨rfl, rfl, rfl, rfl⟩
theorem IsSet.size8 {n : Int} {ts : List ByteArray} (h : IsSet n ts) : ∀ t ∈ ts, t.size ≤ 8 := fun t ht => by
  have h1 := okSums_size h.2.2 t ht
  have h2 := h.1
  simp [isW] at h2
  omega
theorem fromTo_mem {f t : ByteArray} {ts : List ByteArray} {x : ByteArray} (h : x ∈ fromTo f t ts) : x ∈ ts := (List.mem_filter.1 h).1
set_option maxRecDepth 100000 in
set_option maxHeartbeats 1000000 in
theorem specTell_any (v : Value) (ts : List ByteArray) (f t : ByteArray) (n : Int) (w : World) (hv : Reads w v ts) (hl : ts.length ≤ 1048576) (hsz : ∀ i, (tv ts i).size ≤ maxLen) :
    Calls Try.prog 6 #[v, .string f, .string t, .int .i64 n] w fun e w' => ∃ f' t' c m, e = .returned (.agg #[.string f', .string t', .int .i64 c, .string m, .bool false, .slice none 0 0]) ∧ TellR f t n ts f' t' c m ∧ Below w.heap.size w w' := by
  have hA : Below w.heap.size w (w.alloc (.cells #[.string ⟨#[]⟩, .string ⟨#[]⟩, .int .i64 0, .string ⟨#[]⟩, .bool false, .slice none 0 0] 25)) := (Below.refl _ w).alloc (Nat.le_refl _) _
  have hN := Blk.new w 25 #[.string ⟨#[]⟩, .string ⟨#[]⟩, .int .i64 0, .string ⟨#[]⟩, .bool false, .slice none 0 0]
  have HS := hid fun W h => l6Set_any v ts n W h (by unfold maxLen; omega) hsz
  have HT := hid fun W h => l6There_any v ts f t W h hl
  obtain ⟨a, ca, rfl, _⟩ := hv.form
  have HV := hid (hv.below hA)
  have HA := hid hA
  have HN := hid hN
  clear hv hsz hA hN
  go_enter Try.func6, Try.ntmps6
  go_wp2_with fail
  refine (HS.out _ HV.out).mono ?_
  rintro e w1 ⟨b, rfl, hb, hb1⟩
  have N1 := HN.out.below hb1
  have B1 := HA.out.trans (hb1.mono (by simp))
  cases b with
  | false =>
    have HF : Hid (¬ IsSet n ts) := fun h => by have := hb.2 h; cases this
    have s := N1.store6 (.string ⟨#[]⟩) (.string ⟨#[]⟩) (.int .i64 0) (.string ⟨#[]⟩) (.bool false) (.slice none 0 0)
    have s0 := s.a0; have s1 := s.a1; have s2 := s.a2; have s3 := s.a3; have s4 := s.a4; have s5 := s.a5
    have g0 := s.f0; have g1 := s.f1; have g2 := s.f2; have g3 := s.f3; have g4 := s.f4; have g5 := s.f5
    have Z := hid s.z
    have BB := hid (below_store6 B1 (.string ⟨#[]⟩) (.string ⟨#[]⟩) (.int .i64 0) (.string ⟨#[]⟩) (.bool false) (.slice none 0 0))
    clear hb hb1 N1 B1 s
    go_wp2
    refine bodyPost_ret (v := .agg #[.string ⟨#[]⟩, .string ⟨#[]⟩, .int .i64 0, .string ⟨#[]⟩, .bool false, .slice none 0 0]) (by simp [results, Try.results6, go_sem, Z.out.cell]) rfl ⟨_, _, _, _, rfl, .inr ⟨HF.out, rfl, rfl, rfl, rfl⟩, BB.out⟩
  | true =>
    have hset : IsSet n ts := hb.1 rfl
    have HSET := hid hset
    have HB1 := hid hb1
    clear hb hb1 hset
    go_wp2_with fail
    refine (HT.out _ (HV.out.below HB1.out)).mono ?_
    rintro e w2 ⟨v2, rfl, ho2, hb2⟩
    have R2 := hid (Reads.of_row ho2)
    have hlen : (fromTo f t ts).length ≤ 500 := Nat.le_trans (fromTo_len _ _ _) HSET.out.2.1
    have HM := hid fun W h => l6Mix_any v2 (fromTo f t ts) n W h hlen (fun x hx => HSET.out.size8 x (fromTo_mem hx))
    obtain ⟨a2, c2, rfl, _⟩ := row_form ho2
    have N2 := N1.below hb2
    have B2 := B1.trans (hb2.mono B1.size)
    have HR : Hid (TellR f t n ts f t (fromTo f t ts).length (mixB n (fromTo f t ts))) := .inl ⟨HSET.out, rfl, rfl, rfl, rfl⟩
    clear ho2 hb2 N1 B1
    generalize mixB n (fromTo f t ts) = m at *
    generalize (fromTo f t ts) = fs at *
    go_wp2_with fail
    refine (HM.out _ R2.out).mono ?_
    rintro e w3 ⟨rfl, hb3⟩
    have N3 := N2.below hb3
    have B3 := B2.trans (hb3.mono B2.size)
    have s := N3.store6 (.string f) (.string t) (.int .i64 fs.length) (.string m) (.bool false) (.slice none 0 0)
    have s0 := s.a0; have s1 := s.a1; have s2 := s.a2; have s3 := s.a3; have s4 := s.a4; have s5 := s.a5
    have g0 := s.f0; have g1 := s.f1; have g2 := s.f2; have g3 := s.f3; have g4 := s.f4; have g5 := s.f5
    have Z := hid s.z
    have BB := hid (below_store6 B3 (.string f) (.string t) (.int .i64 fs.length) (.string m) (.bool false) (.slice none 0 0))
    clear hb3 N3 B3 s N2 B2
    go_wp2
    refine bodyPost_ret (v := .agg #[.string f, .string t, .int .i64 fs.length, .string m, .bool false, .slice none 0 0]) (by simp [results, Try.results6, go_sem, Z.out.cell]) rfl ⟨_, _, _, _, rfl, HR.out, BB.out⟩
end Go.Proofs.Ytnpfnafalkejnaa
