/- impl.reply. -/
import Derived.Test.YtnpfnafalkejnaaNoteLearn
namespace Go.Proofs.Ytnpfnafalkejnaa
open Go.RowKit
def nt0 : Nt := ⟨ByteArray.empty, ByteArray.empty, 0, ByteArray.empty, false, []⟩
def natt (ns : List Nt) (i : Nat) : Nt := ns.getD i nt0
/-- Six cells that read as a note. -/
structure N6 (w : World) (b o : Nat) (v : Value) (x : Nt) : Prop where
  lt : b < w.heap.size
  c0 : w.cell? ⟨b, o, none⟩ = some (.string x.f)
  c1 : w.cell? ⟨b, o + 1, none⟩ = some (.string x.t)
  c2 : w.cell? ⟨b, o + 2, none⟩ = some (.int .i64 x.c)
  c3 : w.cell? ⟨b, o + 3, none⟩ = some (.string x.m)
  c4 : w.cell? ⟨b, o + 4, none⟩ = some (.bool x.h)
  c5 : w.cell? ⟨b, o + 5, none⟩ = some v
  rd : Reads w v x.ss
theorem N6.below {w w' : World} {b o : Nat} {v : Value} {x : Nt} (h : N6 w b o v x) (hb : Below w.heap.size w w') : N6 w' b o v x :=
  have K := fun (k : Nat) (u : Value) (e : w.cell? ⟨b, k, none⟩ = some u) => (hb.cell (p := ⟨b, k, none⟩) h.lt).trans e
  ⟨Nat.lt_of_lt_of_le h.lt hb.size, K _ _ h.c0, K _ _ h.c1, K _ _ h.c2, K _ _ h.c3, K _ _ h.c4, K _ _ h.c5, h.rd.below hb⟩
/-- A slice that reads as a list of notes. -/
def RdN (w : World) (v : Value) (ns : List Nt) : Prop :=
  ∃ a cap, v = .slice a ns.length cap ∧ ∀ i, i < ns.length → ∃ b off vs, a = some ⟨b, off, none⟩ ∧ N6 w b (off + i * 6) vs (natt ns i)
theorem RdN.below {w w' : World} {v : Value} {ns : List Nt} (h : RdN w v ns) (hb : Below w.heap.size w w') : RdN w' v ns := by
  obtain ⟨a, cap, e, hc⟩ := h
  refine ⟨a, cap, e, fun i hi => ?_⟩
  obtain ⟨b, off, vs, ha, h6⟩ := hc i hi
  exact ⟨b, off, vs, ha, h6.below hb⟩
theorem RdN.nil (w : World) (a : Option Addr) (c : Nat) : RdN w (.slice a 0 c) [] := ⟨a, c, rfl, fun i hi => absurd hi (by simp)⟩
/-- What Tell tells of a set. -/
def tellN (n : Int) (ts : List ByteArray) (f t : ByteArray) : Nt := ⟨f, t, ((fromTo f t ts).length : Nat), mixB n (fromTo f t ts), false, []⟩
def SameN (n : Int) (ts : List ByteArray) (x : Nt) : Prop := ((fromTo x.f x.t ts).length : Int) = x.c ∧ mixB n (fromTo x.f x.t ts) = x.m
def FewN (ts : List ByteArray) (x : Nt) : Prop := x.c ≤ 4 ∨ (fromTo x.f x.t ts).length ≤ 4
def midN (ts : List ByteArray) (x : Nt) : ByteArray := tv (fromTo x.f x.t ts) ((fromTo x.f x.t ts).length / 2)
/-- What is told in return for a note that tells of a stretch. -/
def ReplyR (n : Int) (ts : List ByteArray) (x : Nt) (ns : List Nt) : Prop :=
  (SameN n ts x ∧ ns = []) ∨ (¬ SameN n ts x ∧ FewN ts x ∧ ns = [⟨x.f, x.t, 0, ⟨#[]⟩, true, fromTo x.f x.t ts⟩]) ∨
  (¬ SameN n ts x ∧ ¬ FewN ts x ∧ ns = [tellN n ts x.f (midN ts x), tellN n ts (midN ts x) x.t])
set_option maxRecDepth 100000 in
theorem reply_has (v : Value) (f t m : ByteArray) (c : Int) (vs : Value) (n : Int) (w : World) (hvs : ∃ a l cp, vs = .slice a l cp) :
    Calls Try.prog 32 #[v, .agg #[.string f, .string t, .int .i64 c, .string m, .bool true, vs], .int .i64 n] w fun e w' => e = .returned (.slice none 0 0) ∧ Below w.heap.size w w' := by
  obtain ⟨a, l, cp, rfl⟩ := hvs
  have HA := hid ((Below.refl w.heap.size w).alloc (Nat.le_refl _) (.cells #[.string f, .string t, .int .i64 c, .string m, .bool true, .slice a l cp] 25))
  go_enter Try.func32, Try.ntmps32
  go_wp2
  go_ret
  exact ⟨rfl, HA.out⟩
set_option maxRecDepth 100000 in
set_option maxHeartbeats 2000000 in
theorem reply_any (v : Value) (ts : List ByteArray) (f t m : ByteArray) (c : Int) (vs : Value) (ss : List ByteArray) (n : Int) (w : World) (hv : Rdc w v ts) (hset : IsSet n ts) (hvs : ∃ a l cp, vs = .slice a l cp) :
    Calls Try.prog 32 #[v, .agg #[.string f, .string t, .int .i64 c, .string m, .bool false, vs], .int .i64 n] w fun e w' => ∃ v' ns, e = .returned v' ∧ ReplyR n ts ⟨f, t, c, m, false, ss⟩ ns ∧ RdN w' v' ns ∧ Below w.heap.size w w' := by
  obtain ⟨a, l, cp, rfl⟩ := hvs
  have hA := (Below.refl w.heap.size w).alloc (Nat.le_refl _) (.cells #[.string f, .string t, .int .i64 c, .string m, .bool false, .slice a l cp] 25)
  have hlen : (fromTo f t ts).length ≤ 500 := Nat.le_trans (fromTo_len _ _ _) hset.2.1
  have HTL := hid (tell_any v ts f t n _ (hv.below hA) hset)
  have HT2 := hid fun x y W k => tell_any v ts x y n W k hset
  have HST := hid fun W k => stretch_any v ts f t W k (okSums_asc hset.2.2) (by have := hset.2.1; omega)
  have HV := hid (hv.below hA)
  have HN := hid (Blk.new w 25 #[.string f, .string t, .int .i64 c, .string m, .bool false, .slice a l cp])
  have HA := hid hA
  have HSAME : Hid (SameN n ts ⟨f, t, c, m, false, ss⟩ ↔ ((fromTo f t ts).length : Int) = c ∧ mixB n (fromTo f t ts) = m) := Iff.rfl
  have HFEW : Hid (FewN ts ⟨f, t, c, m, false, ss⟩ ↔ c ≤ 4 ∨ (fromTo f t ts).length ≤ 4) := Iff.rfl
  have HR1 : Hid (SameN n ts ⟨f, t, c, m, false, ss⟩ → ReplyR n ts ⟨f, t, c, m, false, ss⟩ []) := fun h => .inl ⟨h, rfl⟩
  have HR2 : Hid (¬ SameN n ts ⟨f, t, c, m, false, ss⟩ → FewN ts ⟨f, t, c, m, false, ss⟩ → ReplyR n ts ⟨f, t, c, m, false, ss⟩ [⟨f, t, 0, ⟨#[]⟩, true, fromTo f t ts⟩]) := fun h k => .inr (.inl ⟨h, k, rfl⟩)
  have HR3 : Hid (¬ SameN n ts ⟨f, t, c, m, false, ss⟩ → ¬ FewN ts ⟨f, t, c, m, false, ss⟩ → ReplyR n ts ⟨f, t, c, m, false, ss⟩ [tellN n ts f (tv (fromTo f t ts) ((fromTo f t ts).length / 2)), tellN n ts (tv (fromTo f t ts) ((fromTo f t ts).length / 2)) t]) := fun h k => .inr (.inr ⟨h, k, rfl⟩)
  obtain ⟨av, cv, rfl, _⟩ := hv
  clear hA hset
  generalize mixB n (fromTo f t ts) = mx at *
  generalize fromTo f t ts = fs at *
  go_enter Try.func32, Try.ntmps32
  go_wp2_with fail
  refine HTL.out.mono ?_
  rintro e w1 ⟨rfl, hb1⟩
  have N1 := HN.out.below hb1
  have B1 := HA.out.trans (hb1.mono (by simp))
  have hs1 := hb1.size
  rw [World.size_alloc] at hs1
  have N2 := N1.alloc (.cells #[.string f, .string t, .int .i64 (fs.length : Nat), .string mx, .bool false, .slice none 0 0] 25)
  have B2 := B1.alloc (by omega) (.cells #[.string f, .string t, .int .i64 (fs.length : Nat), .string mx, .bool false, .slice none 0 0] 25)
  have HV2 := hid ((HV.out.below hb1).below ((Below.refl w1.heap.size w1).alloc (Nat.le_refl _) (.cells #[.string f, .string t, .int .i64 (fs.length : Nat), .string mx, .bool false, .slice none 0 0] 25)))
  have c0 : ∀ o, (w1.alloc o).cell? ⟨w.heap.size, 0, none⟩ = some (.string f) := fun o => (N1.alloc o).cell 0
  have c1 : ∀ o, (w1.alloc o).cell? ⟨w.heap.size, 1, none⟩ = some (.string t) := fun o => (N1.alloc o).cell 1
  have c2 : ∀ o, (w1.alloc o).cell? ⟨w.heap.size, 2, none⟩ = some (.int .i64 c) := fun o => (N1.alloc o).cell 2
  have c3 : ∀ o, (w1.alloc o).cell? ⟨w.heap.size, 3, none⟩ = some (.string m) := fun o => (N1.alloc o).cell 3
  have HN2 := hid N2
  have HB2 := hid B2
  clear hb1 N1 B1 N2 B2
  by_cases hsame : (fs.length : Int) = c ∧ mx = m
  · have HY := hid (HR1.out (HSAME.out.2 hsame))
    obtain ⟨hs1', hs2'⟩ := hsame
    subst hs1' hs2'
    go_wp2
    go_ret
    exact ⟨_, [], rfl, HY.out, RdN.nil _ _ _, HB2.out⟩
  have HNS : Hid (¬ SameN n ts ⟨f, t, c, m, false, ss⟩) := fun h => hsame (HSAME.out.1 h)
  go_upto_region 4 with fail
  go_cut [30] from 19 to 70 (fun s30 wx => s30 = .bool false ∧ wx = w1.alloc (.cells #[.string f, .string t, .int .i64 (fs.length : Nat), .string mx, .bool false, .slice none 0 0] 25))
  case first =>
    by_cases hcnt : (fs.length : Int) = c
    · have hmx : (mx.toList == m.toList) = false := by
        rw [beq_eq_false_iff_ne]
        exact fun e => hsame ⟨hcnt, text_eq e⟩
      subst hcnt
      clear hsame
      go_wp2_with fail
      go_meet
      exact ⟨rfl, rfl⟩
    · have hcb : ((fs.length : Int) == c) = false := by rw [beq_eq_false_iff_ne]; exact hcnt
      clear hsame hcnt
      go_wp2_with fail
      go_meet
      exact ⟨rfl, rfl⟩
  case rest =>
    obtain ⟨rfl, rfl⟩ := hcut
    clear hsame
    go_wp2_with fail
    refine (HST.out _ HV2.out).mono ?_
    rintro e w3 ⟨v3, rfl, hr3, hb3⟩
    have HRD3 := hid hr3
    have hb3' := hb3
    obtain ⟨a3, c3', rfl, hcap3, hx3⟩ := hr3
    have N3 := HN2.out.below hb3
    have B3 := HB2.out.trans (hb3.mono HB2.out.size)
    have HV3 := hid (HV2.out.below hb3)
    have hs3 := hb3.size
    rw [World.size_alloc] at hs3
    have d0 : w3.cell? ⟨w.heap.size, 0, none⟩ = some (.string f) := N3.cell 0
    have d1 : w3.cell? ⟨w.heap.size, 1, none⟩ = some (.string t) := N3.cell 1
    have d2 : w3.cell? ⟨w.heap.size, 2, none⟩ = some (.int .i64 c) := N3.cell 2
    have HN3 := hid N3
    have HB3 := hid B3
    clear hb3 hb3' N3 B3 c0 c1 c2 c3
    by_cases hfew : c ≤ 4 ∨ fs.length ≤ 4
    · have HY := hid (HR2.out HNS.out (HFEW.out.2 hfew))
      have hNB := Blk.new w3 25 #[.string f, .string t, .int .i64 0, .string ⟨#[]⟩, .bool true, .slice a3 fs.length c3']
      have hA4 := (Below.refl w3.heap.size w3).alloc (Nat.le_refl _) (.cells #[.string f, .string t, .int .i64 0, .string ⟨#[]⟩, .bool true, .slice a3 fs.length c3'] 25)
      have HRN : Hid (RdN (w3.alloc (.cells #[.string f, .string t, .int .i64 0, .string ⟨#[]⟩, .bool true, .slice a3 fs.length c3'] 25)) (.slice (some ⟨w3.heap.size, 0, none⟩) 1 1) [⟨f, t, 0, ⟨#[]⟩, true, fs⟩]) := ⟨_, 1, rfl, fun i hi => by
        have hi0 : i = 0 := by simpa using hi
        subst hi0
        exact ⟨w3.heap.size, 0, .slice a3 fs.length c3', rfl, hNB.lt, hNB.cell 0, hNB.cell 1, hNB.cell 2, hNB.cell 3, hNB.cell 4, hNB.cell 5, (HRD3.out.below hA4).reads⟩⟩
      have HB4 := hid (HB3.out.trans (hA4.mono HB3.out.size))
      clear hNB hA4 hx3
      by_cases h4 : c ≤ 4
      · clear hfew
        go_wp2
        go_ret
        exact ⟨_, _, rfl, HY.out, HRN.out, HB4.out⟩
      · have h5 : fs.length ≤ 4 := by omega
        clear hfew
        go_wp2
        go_ret
        exact ⟨_, _, rfl, HY.out, HRN.out, HB4.out⟩
    have HNF : Hid (¬ FewN ts ⟨f, t, c, m, false, ss⟩) := fun h => hfew (HFEW.out.1 h)
    have HY := hid (HR3.out HNS.out HNF.out)
    have h4 : ¬ (c ≤ 4) := fun h => hfew (.inl h)
    have h5 : ¬ (fs.length ≤ 4) := fun h => hfew (.inr h)
    clear hfew
    have hx4 : ∃ b off, a3 = some ⟨b, off, none⟩ ∧ b < w3.heap.size ∧ w3.cell? ⟨b, off + fs.length / 2, none⟩ = some (.string (tv fs (fs.length / 2))) := by
      rcases hx3 with h | ⟨b, off, e, hl, hc⟩
      · subst h; simp at h5
      · exact ⟨b, off, e, hl, hc _ (by omega)⟩
    obtain ⟨b5, o5, rfl, hb5, e5⟩ := hx4
    have hdl : fs.length / 2 < fs.length := by omega
    have htd : (fs.length : Int).tdiv 2 = ((fs.length / 2 : Nat) : Int) := by rw [Int.tdiv_eq_ediv_of_nonneg (by omega)]; omega
    have HTA := hid fun W k => HT2.out f (tv fs (fs.length / 2)) W k
    have HTB := hid fun W k => HT2.out (tv fs (fs.length / 2)) t W k
    generalize tv fs (fs.length / 2) = md at *
    generalize hfl2 : fs.length / 2 = fh at *
    have HXA : Hid (tellN n ts f md = ⟨f, md, ((fromTo f md ts).length : Nat), mixB n (fromTo f md ts), false, []⟩) := rfl
    have HXB : Hid (tellN n ts md t = ⟨md, t, ((fromTo md t ts).length : Nat), mixB n (fromTo md t ts), false, []⟩) := rfl
    generalize hma : mixB n (fromTo f md ts) = ma at *
    generalize hmb : mixB n (fromTo md t ts) = mb at *
    generalize hla : (fromTo f md ts).length = la at *
    generalize hlb : (fromTo md t ts).length = lb at *
    clear hma hmb hla hlb hx3 hfl2
    have hS0 : w3.drew.cell? ⟨w.heap.size, 0, none⟩ = some (.string f) ∧ w3.drew.cell? ⟨w.heap.size, 1, none⟩ = some (.string t) := ⟨d0, d1⟩
    have hec := enters_of Try.func27 (by kernel_rfl) rfl
    have hbd : Below w3.heap.size w3 w3.drew := below_drewN (Below.refl _ _) 1
    have HBD := hid hbd
    clear hbd
    go_wp2_with fail
    refine wp_region_held (S := fun w' => w'.cell? ⟨w.heap.size, 0, none⟩ = some (.string f) ∧ w'.cell? ⟨w.heap.size, 1, none⟩ = some (.string t)) (by kernel_rfl) ?_
    change wpAnyH _ _ _ _ _ _ _ _ (World.drew _)
    refine wpAnyH_take (i := 0) (v := .slice av ts.length cv) rfl (by kernel_rfl) (by kernel_rfl) (by kernel_rfl) (fun _ _ _ h => h) (.inl ⟨rfl, fun w' hS => by obtain ⟨s1, s2⟩ := hS; go_simp⟩) hS0 ?_
    refine wpAnyH_take (i := 1) (v := .pointer (some ⟨w.heap.size, 0, none⟩)) rfl (by kernel_rfl) (by kernel_rfl) (by kernel_rfl) (fun _ _ _ h => h) (.inl ⟨rfl, fun w' hS => by obtain ⟨s1, s2⟩ := hS; go_simp⟩) hS0 ?_
    refine wpAnyH_take (i := 2) (v := .string f) rfl (by kernel_rfl) (by kernel_rfl) (by kernel_rfl) (fun _ _ _ h => h) (.inl ⟨rfl, fun w' hS => by obtain ⟨s1, s2⟩ := hS; go_simp⟩) hS0 ?_
    refine wpAnyH_take (i := 3) (v := .string md) rfl (by kernel_rfl) (by kernel_rfl) (by kernel_rfl) (fun _ _ _ h => h) (.inl ⟨rfl, fun w' hS => by obtain ⟨s1, s2⟩ := hS; go_simp⟩) hS0 ?_
    refine wpAnyH_take (i := 4) (v := .int .i64 n) rfl (by kernel_rfl) (by kernel_rfl) (by kernel_rfl) (fun _ _ _ h => h) (.inl ⟨rfl, fun w' hS => by obtain ⟨s1, s2⟩ := hS; go_simp⟩) hS0 ?_
    refine wpAnyH_take (i := 6) (v := .slice av ts.length cv) rfl (by kernel_rfl) (by kernel_rfl) (by kernel_rfl) (fun _ _ _ h => h) (.inl ⟨rfl, fun w' hS => by obtain ⟨s1, s2⟩ := hS; go_simp⟩) hS0 ?_
    refine wpAnyH_take (i := 7) (v := .string md) rfl (by kernel_rfl) (by kernel_rfl) (by kernel_rfl) (fun _ _ _ h => h) (.inl ⟨rfl, fun w' hS => by obtain ⟨s1, s2⟩ := hS; go_simp⟩) hS0 ?_
    refine wpAnyH_take (i := 8) (v := .pointer (some ⟨w.heap.size, 1, none⟩)) rfl (by kernel_rfl) (by kernel_rfl) (by kernel_rfl) (fun _ _ _ h => h) (.inl ⟨rfl, fun w' hS => by obtain ⟨s1, s2⟩ := hS; go_simp⟩) hS0 ?_
    refine wpAnyH_take (i := 9) (v := .string t) rfl (by kernel_rfl) (by kernel_rfl) (by kernel_rfl) (fun _ _ _ h => h) (.inl ⟨rfl, fun w' hS => by obtain ⟨s1, s2⟩ := hS; go_simp⟩) hS0 ?_
    refine wpAnyH_take (i := 10) (v := .int .i64 n) rfl (by kernel_rfl) (by kernel_rfl) (by kernel_rfl) (fun _ _ _ h => h) (.inl ⟨rfl, fun w' hS => by obtain ⟨s1, s2⟩ := hS; go_simp⟩) hS0 ?_
    refine held_one 5 (by kernel_rfl) (op_calls (f := 27) (args := #[.slice av ts.length cv, .string f, .string md, .int .i64 n]) rfl rfl (by go_simp) (HTA.out _ (HV3.out.below HBD.out)) ?_)
    rintro e w5 ⟨rfl, hb5'⟩
    have hb5a : Below w3.heap.size w3 w5 := ⟨hb5'.os, hb5'.tape, hb5'.output, hb5'.size, hb5'.block⟩
    have N5 := HN3.out.below hb5a
    have hS1 : w5.cell? ⟨w.heap.size, 0, none⟩ = some (.string f) ∧ w5.cell? ⟨w.heap.size, 1, none⟩ = some (.string t) := ⟨N5.cell 0, N5.cell 1⟩
    refine ⟨_, rfl, hS1, ?_⟩
    refine held_one 11 (by kernel_rfl) (op_calls (f := 27) (args := #[.slice av ts.length cv, .string md, .string t, .int .i64 n]) rfl rfl (by go_simp) (HTB.out _ (HV3.out.below hb5a)) ?_)
    rintro e w6 ⟨rfl, hb6⟩
    have hb6a := hb5a.trans (hb6.mono hb5a.size)
    have N6' := HN3.out.below hb6a
    have hS2 : w6.cell? ⟨w.heap.size, 0, none⟩ = some (.string f) ∧ w6.cell? ⟨w.heap.size, 1, none⟩ = some (.string t) := ⟨N6'.cell 0, N6'.cell 1⟩
    have N7 := N6'.alloc (.cells #[.string f, .string md, .int .i64 (la : Nat), .string ma, .bool false, .slice none 0 0, .string md, .string t, .int .i64 (lb : Nat), .string mb, .bool false, .slice none 0 0] 25)
    have hS3 : (w6.alloc (.cells #[.string f, .string md, .int .i64 (la : Nat), .string ma, .bool false, .slice none 0 0, .string md, .string t, .int .i64 (lb : Nat), .string mb, .bool false, .slice none 0 0] 25)).cell? ⟨w.heap.size, 0, none⟩ = some (.string f) ∧ (w6.alloc (.cells #[.string f, .string md, .int .i64 (la : Nat), .string ma, .bool false, .slice none 0 0, .string md, .string t, .int .i64 (lb : Nat), .string mb, .bool false, .slice none 0 0] 25)).cell? ⟨w.heap.size, 1, none⟩ = some (.string t) := ⟨N7.cell 0, N7.cell 1⟩
    have hbx := Blk.new w6 25 #[.string f, .string md, .int .i64 (la : Nat), .string ma, .bool false, .slice none 0 0, .string md, .string t, .int .i64 (lb : Nat), .string mb, .bool false, .slice none 0 0]
    have HRN : Hid (RdN (w6.alloc (.cells #[.string f, .string md, .int .i64 (la : Nat), .string ma, .bool false, .slice none 0 0, .string md, .string t, .int .i64 (lb : Nat), .string mb, .bool false, .slice none 0 0] 25)) (.slice (some ⟨w6.heap.size, 0, none⟩) 2 2) [tellN n ts f md, tellN n ts md t]) := ⟨_, 2, rfl, fun i hi => by
      have hi2 : i < 2 := by simpa using hi
      match i, hi2 with
      | 0, _ =>
        show ∃ b off vs, _ = some _ ∧ N6 _ b (off + 0 * 6) vs (tellN n ts f md)
        rw [HXA.out]
        exact ⟨w6.heap.size, 0, .slice none 0 0, rfl, hbx.lt, hbx.cell 0, hbx.cell 1, hbx.cell 2, hbx.cell 3, hbx.cell 4, hbx.cell 5, .inl ⟨rfl, none, 0, rfl⟩⟩
      | 1, _ =>
        show ∃ b off vs, _ = some _ ∧ N6 _ b (off + 1 * 6) vs (tellN n ts md t)
        rw [HXB.out]
        exact ⟨w6.heap.size, 0, .slice none 0 0, rfl, hbx.lt, hbx.cell 6, hbx.cell 7, hbx.cell 8, hbx.cell 9, hbx.cell 10, hbx.cell 11, .inl ⟨rfl, none, 0, rfl⟩⟩⟩
    have HB6 := hid (HB3.out.trans ((hb6a.alloc hb6a.size (.cells #[.string f, .string md, .int .i64 (la : Nat), .string ma, .bool false, .slice none 0 0, .string md, .string t, .int .i64 (lb : Nat), .string mb, .bool false, .slice none 0 0] 25)).mono HB3.out.size))
    refine ⟨_, rfl, hS2, ?_⟩
    refine held_one 12 (by kernel_rfl) (op_value (v := .slice (some ⟨w6.heap.size, 0, none⟩) 2 2) (w' := w6.alloc (.cells #[.string f, .string md, .int .i64 (la : Nat), .string ma, .bool false, .slice none 0 0, .string md, .string t, .int .i64 (lb : Nat), .string mb, .bool false, .slice none 0 0] 25)) rfl rfl (by go_simp) ⟨hS3, ?_⟩)
    refine wpAnyH_take (i := 13) (v := .slice (some ⟨w6.heap.size, 0, none⟩) 2 2) rfl (by kernel_rfl) (by kernel_rfl) (by kernel_rfl) (fun _ _ _ h => h) (.inl ⟨rfl, fun w' hS => by obtain ⟨s1, s2⟩ := hS; go_simp⟩) hS3 ?_
    refine wpAnyH_done (by kernel_rfl) ?_ _
    clear hS0 hS1 hS2 hS3 N5 N6' N7 hbx hb5' hb5a hb6 hb6a
    go_simp
    go_wp2
    go_ret
    exact ⟨_, _, rfl, HY.out, HRN.out, HB6.out⟩
end Go.Proofs.Ytnpfnafalkejnaa
