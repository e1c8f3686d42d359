/- impl.Tell tells of a stretch. -/
import Derived.Test.YtnpfnafalkejnaaTellSpec
import Derived.Test.YtnpfnafalkejnaaJoinR
import Derived.Test.YtnpfnafalkejnaaCloneNote
namespace Go.Proofs.Ytnpfnafalkejnaa
open Go.RowKit
set_option maxRecDepth 100000 in
set_option maxHeartbeats 1000000 in
theorem tell_any (v : Value) (ts : List ByteArray) (f t : ByteArray) (n : Int) (w : World) (hv : Rdc w v ts) (hset : IsSet n ts) :
    Calls Try.prog 27 #[v, .string f, .string t, .int .i64 n] w fun e w' => e = .returned (.agg #[.string f, .string t, .int .i64 (fromTo f t ts).length, .string (mixB n (fromTo f t ts)), .bool false, .slice none 0 0]) ∧ Below w.heap.size w w' := by
  have hA : Below w.heap.size w (w.alloc (.cells #[.string ⟨#[]⟩, .string ⟨#[]⟩, .int .i64 0, .string ⟨#[]⟩, .bool false, .slice none 0 0] 25)) := (Below.refl _ w).alloc (Nat.le_refl _) _
  have hN := Blk.new w 25 #[.string ⟨#[]⟩, .string ⟨#[]⟩, .int .i64 0, .string ⟨#[]⟩, .bool false, .slice none 0 0]
  have HS := hid fun W h => stretch_any v ts f t W h (okSums_asc hset.2.2) (by have := hset.2.1; omega)
  have hlen : (fromTo f t ts).length ≤ 500 := Nat.le_trans (fromTo_len _ _ _) hset.2.1
  have HJ := hid fun V W h => joinR_any V (fromTo f t ts) W h hlen (fun x hx => hset.size8 x (fromTo_mem hx))
  have hjl : (joinB (fromTo f t ts)).length ≤ 4000 := Nat.le_trans (joinB_len 8 _ fun x hx => hset.size8 x (fromTo_mem hx)) (by omega)
  have HI := hid fun W => implSum_any ⟨(joinB (fromTo f t ts)).toArray⟩ n W (by simp [ByteArray.size, maxLen]; omega)
  have hm : Hid (mixB n (fromTo f t ts) = ⟨(sumOf (⟨(joinB (fromTo f t ts)).toArray⟩ : ByteArray).data.toList n).toArray⟩) := rfl
  obtain ⟨a, ca, rfl, hcap, hx⟩ := hv
  have hv : Rdc w (.slice a ts.length ca) ts := ⟨a, ca, rfl, hcap, hx⟩
  have HV := hid (hv.below hA)
  have HA := hid hA
  have HN := hid hN
  clear hv hA hN hcap hx hjl hset
  generalize mixB n (fromTo f t ts) = m at *
  generalize (⟨(joinB (fromTo f t ts)).toArray⟩ : ByteArray) = j at *
  generalize fromTo f t ts = fs at *
  go_enter Try.func27, Try.ntmps27
  go_wp2_with fail
  refine (HS.out _ HV.out).mono ?_
  rintro e w1 ⟨v1, rfl, h1, hb1⟩
  have N1 := HN.out.below hb1
  have B1 := HA.out.trans (hb1.mono (by simp))
  have HJ1 := hid (HJ.out v1 w1 h1)
  obtain ⟨a1, c1, rfl, _⟩ := h1
  clear hb1
  go_wp2_with fail
  refine HJ1.out.mono ?_
  rintro e w2 ⟨rfl, hb2⟩
  have N2 := N1.below hb2
  have B2 := B1.trans (hb2.mono B1.size)
  clear hb2 N1 B1
  go_wp2_with fail
  refine (HI.out _).mono ?_
  rintro e w3 ⟨rfl, hb3⟩
  have N3 := N2.below hb3
  have B3 := B2.trans (hb3.mono B2.size)
  have hm1 := hm.out
  rw [← hm1]
  clear hm1
  have s := N3.store6 (.string f) (.string t) (.int .i64 fs.length) (.string m) (.bool false) (.slice none 0 0)
  have s0 := s.a0; have s1 := s.a1; have s2 := s.a2; have s3 := s.a3; have s4 := s.a4; have s5 := s.a5
  have g0 := s.f0; have g1 := s.f1; have g2 := s.f2; have g3 := s.f3; have g4 := s.f4; have g5 := s.f5
  have Z := hid s.z
  have BB := hid (below_store6 B3 (.string f) (.string t) (.int .i64 fs.length) (.string m) (.bool false) (.slice none 0 0))
  clear hb3 N3 B3 s N2 B2
  go_wp2
  exact bodyPost_ret (v := .agg #[.string f, .string t, .int .i64 fs.length, .string m, .bool false, .slice none 0 0]) (by simp [results, Try.results27, go_sem, Z.out.cell]) rfl ⟨rfl, BB.out⟩
set_option maxRecDepth 100000 in
set_option maxHeartbeats 1000000 in
theorem implTell_any (v : Value) (ts : List ByteArray) (f t : ByteArray) (n : Int) (w : World) (hv : Rdc w v ts) (hl : ts.length ≤ 1048576) (hsz : ∀ i, (tv ts i).size ≤ maxLen) (hf : f.size ≤ 1048576) (ht : t.size ≤ 1048576) :
    Calls Try.prog 8 #[v, .string f, .string t, .int .i64 n] w fun e w' => ∃ f' t' c m a' c', e = .returned (.agg #[.string f', .string t', .int .i64 c, .string m, .bool false, .slice a' 0 c']) ∧ TellR f t n ts f' t' c m ∧ Below w.heap.size w w' := by
  have hA : Below w.heap.size w (w.alloc (.cells #[.string ⟨#[]⟩, .string ⟨#[]⟩, .int .i64 0, .string ⟨#[]⟩, .bool false, .slice none 0 0] 25)) := (Below.refl _ w).alloc (Nat.le_refl _) _
  have hN := Blk.new w 25 #[.string ⟨#[]⟩, .string ⟨#[]⟩, .int .i64 0, .string ⟨#[]⟩, .bool false, .slice none 0 0]
  have HS := hid fun W h => isSet_any v ts n W h (by unfold maxLen; omega) hsz
  have HT := hid fun W h k => tell_any v ts f t n W h k
  have HC := hid fun m c W => cloneNote_any f t m c false (.slice none 0 0) [] W (.inl ⟨rfl, none, 0, rfl⟩) (by simp) (fun i => by simp [tv]) hf ht
  obtain ⟨a, ca, rfl, hcap, hx⟩ := hv
  have hv : Rdc w (.slice a ts.length ca) ts := ⟨a, ca, rfl, hcap, hx⟩
  have HV := hid (hv.below hA)
  have HA := hid hA
  have HN := hid hN
  clear hv hsz hA hN hcap hx hf ht
  go_enter Try.func8, Try.ntmps8
  go_wp2_with fail
  refine (HS.out _ HV.out.reads).mono ?_
  rintro e w1 ⟨b, rfl, hb, rfl⟩
  cases b with
  | false =>
    have HF : Hid (¬ IsSet n ts) := fun h => by have := hb.2 h; cases this
    clear hb
    go_wp2
    refine bodyPost_ret (v := .agg #[.string ⟨#[]⟩, .string ⟨#[]⟩, .int .i64 0, .string ⟨#[]⟩, .bool false, .slice none 0 0]) (by simp [results, Try.results8, go_sem]) rfl ⟨_, _, _, _, _, _, rfl, .inr ⟨HF.out, rfl, rfl, rfl, rfl⟩, HA.out⟩
  | true =>
    have HSET := hid (hb.1 rfl)
    have HR : Hid (TellR f t n ts f t (fromTo f t ts).length (mixB n (fromTo f t ts))) := .inl ⟨HSET.out, rfl, rfl, rfl, rfl⟩
    have HT1 := hid (HT.out _ HV.out HSET.out)
    clear hb
    generalize mixB n (fromTo f t ts) = m at *
    generalize (fromTo f t ts) = fs at *
    go_wp2_with fail
    refine HT1.out.mono ?_
    rintro e w2 ⟨rfl, hb2⟩
    have N2 := HN.out.below hb2
    have B2 := HA.out.trans (hb2.mono (by simp))
    go_wp2_with fail
    refine (HC.out m fs.length _).mono ?_
    rintro e w3 ⟨v3, rfl, ho3, hb3⟩
    obtain ⟨a3, c3, rfl, _⟩ := row_form ho3
    have N3 := N2.below hb3
    have B3 := B2.trans (hb3.mono B2.size)
    have s := N3.store6 (.string f) (.string t) (.int .i64 fs.length) (.string m) (.bool false) (.slice a3 0 c3)
    have s0 := s.a0; have s1 := s.a1; have s2 := s.a2; have s3 := s.a3; have s4 := s.a4; have s5 := s.a5
    have g0 := s.f0; have g1 := s.f1; have g2 := s.f2; have g3 := s.f3; have g4 := s.f4; have g5 := s.f5
    have Z := hid s.z
    have BB := hid (below_store6 B3 (.string f) (.string t) (.int .i64 fs.length) (.string m) (.bool false) (.slice a3 0 c3))
    clear hb3 N3 B3 s N2 B2 hb2
    go_wp2
    refine bodyPost_ret (v := .agg #[.string f, .string t, .int .i64 fs.length, .string m, .bool false, .slice a3 0 c3]) (by simp [results, Try.results8, go_sem, Z.out.cell]) rfl ⟨_, _, _, _, _, _, rfl, HR.out, BB.out⟩
end Go.Proofs.Ytnpfnafalkejnaa
