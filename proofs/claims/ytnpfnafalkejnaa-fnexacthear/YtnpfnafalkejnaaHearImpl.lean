/- impl.Hear. -/
import Derived.Test.YtnpfnafalkejnaaNotesOwn
namespace Go.Proofs.Ytnpfnafalkejnaa
open Go.RowKit
/-- What Hear answers. -/
def HearR (n : Int) (ts : List ByteArray) (x : Nt) (ns : List Nt) (th ou : List ByteArray) : Prop :=
  (¬ (IsSet n ts ∧ OkNote n x) ∧ ns = [] ∧ th = [] ∧ ou = []) ∨
  ((IsSet n ts ∧ OkNote n x) ∧ x.h = true ∧ ns = [] ∧ th = minusL x.ss (fromTo x.f x.t ts) ∧ ou = minusL (fromTo x.f x.t ts) x.ss) ∨
  ((IsSet n ts ∧ OkNote n x) ∧ x.h = false ∧ ReplyR n ts x ns ∧ th = [] ∧ ou = [])
/-- What Hear answers, in rows of its own. -/
structure HearOwn (w : World) (B : Nat) (vn v1 v2 : Value) (qs : NV) (th ou : List ByteArray) : Prop where
  notes : NotesOwn w B vn qs
  r1 : w.ownsRow B 9 1 v1 th.length (th.map Value.string)
  r2 : w.ownsRow B 9 1 v2 ou.length (ou.map Value.string)
  a1 : ∀ g, v1.ownBlock = some g → ¬ NBlk vn qs g
  a2 : ∀ g, v2.ownBlock = some g → ¬ NBlk vn qs g
  a3 : ∀ g, v1.ownBlock = some g → v2.ownBlock ≠ some g
theorem HearOwn.nil (w : World) (B : Nat) : HearOwn w B (.slice none 0 0) (.slice none 0 0) (.slice none 0 0) [] [] [] :=
  ⟨NotesOwn.nil w B, World.ownsRow_nil _ _ _ _, World.ownsRow_nil _ _ _ _, fun g e => by simp [Value.ownBlock] at e, fun g e => by simp [Value.ownBlock] at e, fun g e => by simp [Value.ownBlock] at e⟩
structure NtFits (k : Nat) (x : Nt) : Prop where
  f : x.f.size ≤ k
  t : x.t.size ≤ k
  many : x.ss.length ≤ k
  each : ∀ i, (tv x.ss i).size ≤ k
theorem tv_small {ts : List ByteArray} (h : ∀ x ∈ ts, x.size ≤ 8) (i : Nat) : (tv ts i).size ≤ 8 := by
  by_cases hi : i < ts.length
  · exact h _ (by simp [tv, hi])
  · have : tv ts i = ByteArray.empty := by simp only [tv]; rw [List.getD_eq_getElem?_getD, List.getElem?_eq_none (by omega)]; rfl
    rw [this]; simp
/-- What is told in return is small, and one note, or none that has sums. -/
theorem reply_fits {n : Int} {ts : List ByteArray} {x : Nt} {ns : List Nt} (hset : IsSet n ts) (hf : x.f.size ≤ 1048576) (ht : x.t.size ≤ 1048576) (h : ReplyR n ts x ns) : (∀ i, i < ns.length → NtFits 1048576 (natt ns i)) ∧ (ns.length ≤ 1 ∨ ∀ i, i < ns.length → (natt ns i).ss = []) ∧ ns.length ≤ 2 := by
  have h8 : ∀ y ∈ fromTo x.f x.t ts, y.size ≤ 8 := fun y hy => hset.size8 y (fromTo_mem hy)
  have hl : (fromTo x.f x.t ts).length ≤ 500 := Nat.le_trans (fromTo_len _ _ _) hset.2.1
  have hm : (midN ts x).size ≤ 8 := tv_small h8 _
  rcases h with ⟨_, rfl⟩ | ⟨_, _, rfl⟩ | ⟨_, _, rfl⟩
  · exact ⟨fun i hi => absurd hi (by simp), .inl (by simp), by simp⟩
  · refine ⟨fun i hi => ?_, .inl (by simp), by simp⟩
    have : i = 0 := by simpa using hi
    subst this
    exact ⟨hf, ht, by show (fromTo x.f x.t ts).length ≤ _; omega, fun j => by have := tv_small h8 j; show (tv (fromTo x.f x.t ts) j).size ≤ _; omega⟩
  · have two : ∀ i, i < 2 → i = 0 ∨ i = 1 := fun i hi => by omega
    refine ⟨fun i hi => ?_, .inr fun i hi => ?_, by simp⟩
    · rcases two i (by simpa using hi) with rfl | rfl
      · exact ⟨hf, by show (midN ts x).size ≤ _; omega, by simp [natt, tellN], fun j => by simp [natt, tellN, tv]⟩
      · exact ⟨by show (midN ts x).size ≤ _; omega, ht, by simp [natt, tellN], fun j => by simp [natt, tellN, tv]⟩
    · rcases two i (by simpa using hi) with rfl | rfl <;> rfl
theorem reply_both (v : Value) (ts : List ByteArray) (f t m : ByteArray) (c : Int) (h : Bool) (vs : Value) (ss : List ByteArray) (n : Int) (w : World) (hv : Rdc w v ts) (hset : IsSet n ts) (hvs : ∃ a l cp, vs = .slice a l cp) (hf : f.size ≤ 1048576) (ht : t.size ≤ 1048576) :
    Calls Try.prog 32 #[v, .agg #[.string f, .string t, .int .i64 c, .string m, .bool h, vs], .int .i64 n] w fun e w' => ∃ v' ns, e = .returned v' ∧ ((h = true ∧ ns = []) ∨ (h = false ∧ ReplyR n ts ⟨f, t, c, m, h, ss⟩ ns)) ∧ ((∀ i, i < ns.length → NtFits 1048576 (natt ns i)) ∧ (ns.length ≤ 1 ∨ ∀ i, i < ns.length → (natt ns i).ss = []) ∧ ns.length ≤ 2) ∧ RdN w' v' ns ∧ Below w.heap.size w w' := by
  cases h with
  | true =>
    refine (reply_has v f t m c vs n w hvs).mono ?_
    rintro e w' ⟨rfl, hb⟩
    exact ⟨_, [], rfl, .inl ⟨rfl, rfl⟩, ⟨fun i hi => absurd hi (by simp), .inl (by simp), by simp⟩, RdN.nil _ _ _, hb⟩
  | false =>
    refine (reply_any v ts f t m c vs ss n w hv hset hvs).mono ?_
    rintro e w' ⟨v', ns, rfl, hr, hd, hb⟩
    exact ⟨v', ns, rfl, .inr ⟨rfl, hr⟩, reply_fits hset hf ht hr, hd, hb⟩
theorem learn_both (v : Value) (ts : List ByteArray) (f t m : ByteArray) (c : Int) (h : Bool) (vs : Value) (ss : List ByteArray) (n : Int) (w : World) (hv : Rdc w v ts) (hset : IsSet n ts) (hs : Rdc w vs ss) (hss : h = true → IsSet n ss) :
    Calls Try.prog 33 #[v, .agg #[.string f, .string t, .int .i64 c, .string m, .bool h, vs]] w fun e w' => ∃ v1 v2 th ou, e = .returned (.tuple #[v1, v2]) ∧ ((h = false ∧ th = [] ∧ ou = []) ∨ (h = true ∧ th = minusL ss (fromTo f t ts) ∧ ou = minusL (fromTo f t ts) ss)) ∧ Reads w' v1 th ∧ Reads w' v2 ou ∧ th.length ≤ 500 ∧ ou.length ≤ 500 ∧ (∀ i, (tv th i).size ≤ 8) ∧ (∀ i, (tv ou i).size ≤ 8) ∧ Below w.heap.size w w' := by
  cases h with
  | false =>
    refine (learn_no v f t m c vs w (by obtain ⟨a, cp, e, _⟩ := hs; exact ⟨a, _, cp, e⟩)).mono ?_
    rintro e w' ⟨rfl, hb⟩
    exact ⟨_, _, [], [], rfl, .inl ⟨rfl, rfl, rfl⟩, .inl ⟨rfl, none, 0, rfl⟩, .inl ⟨rfl, none, 0, rfl⟩, by simp, by simp, fun i => by simp [tv], fun i => by simp [tv], hb⟩
  | true =>
    have hS := hss rfl
    refine (learn_yes v ts f t m c vs ss n w hv hset hs hS).mono ?_
    rintro e w' ⟨v1, v2, rfl, o1, o2, _, hb⟩
    have l1 := minusL_len ss (fromTo f t ts)
    have l2 := minusL_len (fromTo f t ts) ss
    have l3 := fromTo_len f t ts
    have l4 := hset.2.1
    have l5 := hS.2.1
    exact ⟨v1, v2, _, _, rfl, .inr ⟨rfl, rfl, rfl⟩, Reads.of_row o1, Reads.of_row o2, by omega, by omega, tv_small (fun x hx => hS.size8 x (List.mem_filter.1 hx).1), tv_small (fun x hx => hset.size8 x (fromTo_mem (List.mem_filter.1 hx).1)), hb⟩
set_option maxRecDepth 100000 in
set_option maxHeartbeats 4000000 in
theorem implHear_any (v : Value) (ts : List ByteArray) (f t m : ByteArray) (c : Int) (h : Bool) (vs : Value) (ss : List ByteArray) (n : Int) (w : World) (hv : Rdc w v ts) (hl : ts.length ≤ 1048576) (hsz : ∀ i, (tv ts i).size ≤ 1048576) (hs : Rdc w vs ss) (hls : ss.length ≤ 1048576) (hss : ∀ i, (tv ss i).size ≤ 1048576) (hf : f.size ≤ 1048576) (ht : t.size ≤ 1048576) :
    Calls Try.prog 17 #[v, .agg #[.string f, .string t, .int .i64 c, .string m, .bool h, vs], .int .i64 n] w fun e w' => ∃ vn v1 v2 qs th ou, e = .returned (.tuple #[vn, v1, v2]) ∧ HearR n ts ⟨f, t, c, m, h, ss⟩ (qs.map Prod.fst) th ou ∧ HearOwn w' (w.heap.size + 1) vn v1 v2 qs th ou ∧ Below w.heap.size w w' := by
  have hA := (Below.refl w.heap.size w).alloc (Nat.le_refl _) (.cells #[.string f, .string t, .int .i64 c, .string m, .bool h, vs] 25)
  obtain ⟨i0, hi0, hz0, hz1, hz2⟩ := info_parts Try.infoNote
  have HIS := hid fun W k => isSet_any v ts n W k (by unfold maxLen; omega) (fun i => by have := hsz i; unfold maxLen; omega)
  have HIN := hid fun W k => isNote_any f t m c h vs ss n W k hls hss
  have HRP := hid fun W k (hset : IsSet n ts) => reply_both v ts f t m c h vs ss n W k hset (by obtain ⟨a, cp, e, _⟩ := hs; exact ⟨a, _, cp, e⟩) hf ht
  have HLN := hid fun W k (hset : IsSet n ts) k2 hh => learn_both v ts f t m c h vs ss n W k hset k2 hh
  have HV := hid (hv.below hA)
  have HS := hid (hs.below hA)
  have HN := hid (Blk.new w 25 #[.string f, .string t, .int .i64 c, .string m, .bool h, vs])
  have HA := hid hA
  obtain ⟨av, cv, rfl, _⟩ := hv
  obtain ⟨asx, csx, rfl, _⟩ := hs
  clear hA hsz hss
  go_enter Try.func17, Try.ntmps17
  go_wp2_with fail
  refine (HIS.out _ HV.out.reads).mono ?_
  rintro e w1 ⟨b, rfl, hb, rfl⟩
  cases b with
  | false =>
    have HF : Hid (HearR n ts ⟨f, t, c, m, h, ss⟩ (([] : NV).map Prod.fst) [] []) := .inl ⟨fun k => (by have := hb.2 k.1; cases this), rfl, rfl, rfl⟩
    clear hb
    go_wp2
    go_ret3
    exact ⟨_, _, _, [], [], [], rfl, HF.out, HearOwn.nil _ _, HA.out⟩
  | true =>
  have HSET := hid (hb.1 rfl)
  clear hb
  go_wp2_with fail
  refine (HIN.out _ HS.out).mono ?_
  rintro e w2 ⟨b, rfl, hb, hb2⟩
  have N2 := HN.out.below hb2
  have B2 := HA.out.trans (hb2.mono (by simp))
  have hs2 := hb2.size
  rw [World.size_alloc] at hs2
  have HB2 := hid B2
  cases b with
  | false =>
    have HF : Hid (HearR n ts ⟨f, t, c, m, h, ss⟩ (([] : NV).map Prod.fst) [] []) := .inl ⟨fun k => (by have := hb.2 k.2; cases this), rfl, rfl, rfl⟩
    clear hb hb2 N2 B2
    go_wp2
    go_ret3
    exact ⟨_, _, _, [], [], [], rfl, HF.out, HearOwn.nil _ _, HB2.out⟩
  | true =>
  have HOK := hid (hb.1 rfl)
  have HV2 := hid (HV.out.below hb2)
  have HS2 := hid (HS.out.below hb2)
  have HN2 := hid N2
  have c0 : w2.cell? ⟨w.heap.size, 0, none⟩ = some (.string f) := N2.cell 0
  have c1 : w2.cell? ⟨w.heap.size, 1, none⟩ = some (.string t) := N2.cell 1
  have c2 : w2.cell? ⟨w.heap.size, 2, none⟩ = some (.int .i64 c) := N2.cell 2
  have c3 : w2.cell? ⟨w.heap.size, 3, none⟩ = some (.string m) := N2.cell 3
  have c4 : w2.cell? ⟨w.heap.size, 4, none⟩ = some (.bool h) := N2.cell 4
  have c5 : w2.cell? ⟨w.heap.size, 5, none⟩ = some (.slice asx ss.length csx) := N2.cell 5
  clear hb hb2 N2 B2
  go_wp2_with fail
  refine (HRP.out _ HV2.out HSET.out).mono ?_
  rintro e w4 ⟨v4, ns, rfl, hrr, hfit, hrd, hb4⟩
  have HRR := hid hrr
  have HFIT := hid hfit.1
  have HSHAPE := hid hfit.2.1
  have hnl := hfit.2.2
  have HRD := hid hrd
  obtain ⟨a4, cp4, rfl, _⟩ := hrd
  have N4 := HN2.out.below hb4
  have B4 := HB2.out.trans (hb4.mono HB2.out.size)
  have hs4 := hb4.size
  have HN4 := hid N4
  have HB4 := hid B4
  have HV4 := hid (HV2.out.below hb4)
  have HS4 := hid (HS2.out.below hb4)
  clear c0 c1 c2 c3 c4 c5 hrr hfit hb4 N4 B4
  go_wp2
  go_loopw [9, 29] (fun v' i wr => ∃ (k : Nat) (qs : NV), k ≤ ns.length ∧ i = .int .i64 k ∧ (k = 0 → v' = .slice none 0 0) ∧ qs.map Prod.fst = ns.take k ∧ NotesOwn wr w4.heap.size v' qs ∧ Below w4.heap.size w4 wr) (fun _ i _ => ns.length - (intOf i).toNat)
  case atStart => exact ⟨0, [], Nat.zero_le _, rfl, fun _ => rfl, rfl, NotesOwn.nil _ _, Below.refl _ _⟩
  case round =>
    obtain ⟨k, qs, hk, rfl, hnil, hqs, hno, hbl⟩ := hrel
    have hql : qs.length = k := by have := congrArg List.length hqs; simp at this; omega
    have hsr := hbl.size
    by_cases hlt : k < ns.length
    · obtain ⟨aq', cq', e', hc⟩ := HRD.out.below hbl
      cases e'
      obtain ⟨b0, o0, vx, rfl, h6⟩ := hc k hlt
      have hfk := HFIT.out k hlt
      have HQN : Hid (∀ v', (qs ++ [(natt ns k, v')]).map Prod.fst = ns.take (k + 1)) := fun v' => by
        rw [List.map_append, hqs, List.take_succ_eq_append_getElem hlt]
        simp [natt, hlt]
      have HMP : Hid (∀ i, i < qs.length → mp qs i = natt ns i) := fun i hi => by
        have h1 : (qs.map Prod.fst)[i]? = (ns.take k)[i]? := by rw [hqs]
        rw [List.getElem?_map, List.getElem?_take_of_lt (by omega), List.getElem?_eq_getElem hi, List.getElem?_eq_getElem (by omega)] at h1
        simp only [mp, natt, List.getD_eq_getElem?_getD, List.getElem?_eq_getElem hi, List.getElem?_eq_getElem (show i < ns.length by omega)]
        simpa using h1
      have HXS : Hid (k ≠ 0 → (natt ns k).ss = []) := fun h0 => HSHAPE.out.elim (fun h1 => by omega) (fun h1 => h1 k hlt)
      have HALL : Hid (k ≠ 0 → ∀ i, i < qs.length → (mp qs i).ss = []) := fun h0 i hi => by
        rw [HMP.out i hi]
        exact HSHAPE.out.elim (fun h1 => by omega) (fun h1 => h1 i (by omega))
      have HCL := hid fun W hr => cloneNote_any (natt ns k).f (natt ns k).t (natt ns k).m (natt ns k).c (natt ns k).h vx (natt ns k).ss W hr hfk.many hfk.each hfk.f hfk.t
      generalize natt ns k = x at *
      obtain ⟨xf, xt, xc, xm, xh, xs⟩ := x
      obtain ⟨x0, x1, x2, x3, x4, x5, x6, x7⟩ := h6
      dsimp only at x1 x2 x3 x4 x5 x6 x7 HCL
      obtain ⟨ax, cx, rfl, _⟩ := x7.form
      have HX7 := hid (x7.below ((Below.refl wr.heap.size wr).alloc (Nat.le_refl _) (.cells #[.string xf, .string xt, .int .i64 xc, .string xm, .bool xh, .slice ax xs.length cx] 25)))
      have HAR := hid ((Below.refl wr.heap.size wr).alloc (Nat.le_refl _) (.cells #[.string xf, .string xt, .int .i64 xc, .string xm, .bool xh, .slice ax xs.length cx] 25))
      have HNO := hid hno
      have HBL := hid hbl
      clear hfk x7 hc hqs hbl
      go_wp2_with fail
      refine (HCL.out _ HX7.out).mono ?_
      rintro e w6 ⟨v6, rfl, ho6, hb6⟩
      obtain ⟨a6, c6, rfl, _⟩ := row_form ho6
      have hs6 := hb6.size
      rw [World.size_alloc] at hs6 ho6
      have B6 := HAR.out.trans (hb6.mono (by simp))
      have B7 := B6.alloc (by omega) (.cells #[.string xf, .string xt, .int .i64 xc, .string xm, .bool xh, .slice a6 xs.length c6] 25)
      have o7 := ho6.alloc (.cells #[.string xf, .string xt, .int .i64 xc, .string xm, .bool xh, .slice a6 xs.length c6] 25)
      have hs7 : (w6.alloc (.cells #[.string xf, .string xt, .int .i64 xc, .string xm, .bool xh, .slice a6 xs.length c6] 25)).heap.size = w6.heap.size + 1 := World.size_alloc _ _
      have HB7 := hid B7
      have HO7 := hid o7
      by_cases hk0 : k = 0
      · have hv0 := hnil hk0
        subst hv0
        have hq0 : qs = [] := List.eq_nil_of_length_eq_zero (by omega)
        subst hq0
        clear B6 B7 o7 ho6 hb6 hnil hno
        go_wp2_with (at_builtin; refine wpList_append_own _ rfl _ _ 34 rfl (w6.heap.size + 1) 25 i0 (.agg #[.string ⟨#[]⟩, .string ⟨#[]⟩, .int .i64 0, .string ⟨#[]⟩, .bool false, .slice none 0 0]) 6 88 Try.underlying34 hi0 hz0 hz1 hz2 rfl (by decide) (.slice none 0 0) 0 [] rfl (World.ownsRow_nil _ _ _ _) ⟨_, 0, none⟩ 1 1 [.string xf, .string xt, .int .i64 xc, .string xm, .bool xh, .slice a6 xs.length c6] rfl rfl (six_new _ _ _ _ _ _ _ _) (by simp [Value.oneCell']) (by unfold maxLen; omega) (by omega) (by simp) ?_; intro v' w8 hown' hgrow _)
        have hb8 : Below (w6.heap.size + 1) (w6.alloc (.cells #[.string xf, .string xt, .int .i64 xc, .string xm, .bool xh, .slice a6 xs.length c6] 25)) w8 := ⟨hgrow.os, hgrow.tape, hgrow.output, hgrow.size, fun j hj => hgrow.block j (by rw [hs7]; exact hj) (by simp [Value.ownBlock])⟩
        have hb8' : Below (w6.alloc (.cells #[.string xf, .string xt, .int .i64 xc, .string xm, .bool xh, .slice a6 xs.length c6] 25)).heap.size (w6.alloc (.cells #[.string xf, .string xt, .int .i64 xc, .string xm, .bool xh, .slice a6 xs.length c6] 25)) w8 := by rw [hs7]; exact hb8
        refine ⟨⟨k + 1, [(⟨xf, xt, xc, xm, xh, xs⟩, .slice a6 xs.length c6)], by omega, by go_num, fun h0 => by omega, HQN.out (.slice a6 xs.length c6), ?_, ?_⟩, by simp [intOf]; omega⟩
        · refine NotesOwn.one (w1 := w6.alloc (.cells #[.string xf, .string xt, .int .i64 xc, .string xm, .bool xh, .slice a6 xs.length c6] 25)) (by rw [hs7]; omega) (nrow_base HO7.out (by omega)) hb8' ?_
          rw [hs7]
          simpa using hown'
        · exact HBL.out.trans ((HB7.out.trans (hb8.mono (by omega))).mono hsr)
      · have hxs := HXS.out hk0
        subst hxs
        have hrow := (HNO.out.below HB7.out).row
        rw [hql] at hrow
        have HALL2 := hid (HALL.out hk0)
        have HQL := hid hql
        clear B6 B7 o7 ho6 hb6 hnil hno hql
        go_wp2_with (at_builtin; refine wpList_append_own _ rfl _ _ 34 rfl w4.heap.size 25 i0 (.agg #[.string ⟨#[]⟩, .string ⟨#[]⟩, .int .i64 0, .string ⟨#[]⟩, .bool false, .slice none 0 0]) 6 88 Try.underlying34 hi0 hz0 hz1 hz2 rfl (by decide) _ _ _ rfl hrow ⟨_, 0, none⟩ 1 1 [.string xf, .string xt, .int .i64 xc, .string xm, .bool xh, .slice a6 0 c6] rfl rfl (six_new _ _ _ _ _ _ _ _) (by simp [Value.oneCell']) (by unfold maxLen; omega) (by omega) (by simp; omega) ?_; intro v' w8 hown' hgrow _)
        refine ⟨⟨k + 1, qs ++ [(⟨xf, xt, xc, xm, xh, []⟩, .slice a6 0 c6)], by omega, by go_num, fun h0 => by omega, HQN.out _, ?_, ?_⟩, by simp [intOf]; omega⟩
        · refine HNO.out.more HALL2.out rfl ⟨a6, c6, rfl⟩ ?_
          rw [HQL.out]
          exact hown'
        · exact HBL.out.trans ((HB7.out.mono hsr).grown hgrow (by rw [hs7]; omega) (fun g e => (HNO.out.row.lt g e).1))
    · obtain rfl : k = ns.length := by omega
      rw [List.take_length] at hqs
      have HQS := hid hqs
      have HNO := hid hno
      have HBL := hid hbl
      have N5 := HN4.out.below hbl
      have c0 : wr.cell? ⟨w.heap.size, 0, none⟩ = some (.string f) := N5.cell 0
      have c1 : wr.cell? ⟨w.heap.size, 1, none⟩ = some (.string t) := N5.cell 1
      have c2 : wr.cell? ⟨w.heap.size, 2, none⟩ = some (.int .i64 c) := N5.cell 2
      have c3 : wr.cell? ⟨w.heap.size, 3, none⟩ = some (.string m) := N5.cell 3
      have c4 : wr.cell? ⟨w.heap.size, 4, none⟩ = some (.bool h) := N5.cell 4
      have c5 : wr.cell? ⟨w.heap.size, 5, none⟩ = some (.slice asx ss.length csx) := N5.cell 5
      have HLR := hid (HLN.out wr (HV4.out.below hbl) HSET.out (HS4.out.below hbl) (fun e => by
        rcases HOK.out.sums with ⟨k2, _⟩ | ⟨_, _, _, k2, _⟩
        · dsimp only at k2; rw [e] at k2; cases k2
        · exact k2))
      obtain ⟨an, cn, hvn⟩ := nrow_any hno.row
      rw [hql] at hvn
      subst hvn
      clear hqs hno hbl N5 hnil hql
      go_wp2_with fail
      refine HLR.out.mono ?_
      rintro e w8 ⟨u1, u2, th, ou, rfl, hlr, ru1, ru2, lt1, lt2, lz1, lz2, hb8⟩
      have HC1 := hid (cloneTexts_any u1 th w8 ru1 (by omega) (fun i => by have := lz1 i; omega))
      have HC2 := hid fun W k => cloneTexts_any u2 ou W k (by omega) (fun i => by have := lz2 i; omega)
      have HRU2 := hid ru2
      obtain ⟨a1, k1, rfl, _⟩ := ru1.form
      obtain ⟨a2, k2, rfl, _⟩ := ru2.form
      have HFIN : Hid (HearR n ts ⟨f, t, c, m, h, ss⟩ (qs.map Prod.fst) th ou) := by
        show HearR _ _ _ _ _ _
        rw [HQS.out]
        rcases hlr with ⟨e1, e2, e3⟩ | ⟨e1, e2, e3⟩ <;> rcases HRR.out with ⟨r1, r2⟩ | ⟨r1, r2⟩
        · rw [e1] at r1; cases r1
        · exact .inr (.inr ⟨⟨HSET.out, HOK.out⟩, e1, r2, e2, e3⟩)
        · exact .inr (.inl ⟨⟨HSET.out, HOK.out⟩, e1, r2, e2, e3⟩)
        · rw [e1] at r1; cases r1
      have B8 := HBL.out.trans (hb8.mono hsr)
      have HNO8 := hid (HNO.out.below hb8)
      have hs8 := hb8.size
      have HB8 := hid (HB4.out.trans (B8.mono HB4.out.size))
      clear hlr ru1 ru2 lz1 lz2 hb8 B8 c0 c1 c2 c3 c4 c5
      go_wp2_with fail
      refine HC1.out.mono ?_
      rintro e w9 ⟨x1, rfl, o9, hb9⟩
      have HC2b := hid (HC2.out w9 (HRU2.out.below hb9))
      have HNO9 := hid (HNO8.out.below hb9)
      have hs9 := hb9.size
      have HB9 := hid (HB8.out.trans (hb9.mono HB8.out.size))
      have HO9 := hid o9
      obtain ⟨b1, j1, rfl, _⟩ := row_form o9
      clear hb9 o9
      go_wp2_with fail
      refine HC2b.out.mono ?_
      rintro e w10 ⟨x2, rfl, o10, hb10⟩
      have HNO10 := hid (HNO9.out.below hb10)
      have HB10 := hid (HB9.out.trans (hb10.mono HB9.out.size))
      have HO9' := hid (Below.row hb10 HO9.out)
      have HO10 := hid o10
      obtain ⟨b2, j2, rfl, _⟩ := row_form o10
      clear hb10 o10
      go_wp2
      go_ret3
      refine ⟨_, _, _, qs, th, ou, rfl, HFIN.out, ⟨HNO10.out.base (by omega), nrow_base HO9'.out (by omega), nrow_base HO10.out (by omega), fun g e hn => ?_, fun g e hn => ?_, fun g e e2 => ?_⟩, HB10.out⟩
      · have k1 := (HO9.out.lt g e).1
        have k2 := (HNO8.out.lt g hn).2
        omega
      · have k1 := (HO10.out.lt g e).1
        have k2 := (HNO8.out.lt g hn).2
        omega
      · have k1 := (HO9.out.lt g e).2
        have k2 := (HO10.out.lt g e2).1
        omega
end Go.Proofs.Ytnpfnafalkejnaa
