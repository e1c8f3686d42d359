/- spec.ValidFetch. -/
import Derived.Test.YtlnkhbnbcmllaaaGreatValidSpec
import Derived.Test.YtlnkhbnbcmllaaaGreatInList
import Derived.Test.YtlnkhbnbcmllaaaGreatPeers
import Derived.Deep.CutRange
import Derived.Deep.DeepCutAuto
namespace Go.Proofs.YtlnkhbnbcmllaaaGreat
open Go.RowKit
/-- What a peer of a valid fetch is. -/
structure PrOk (now wd : Int) (p : Pr) : Prop where
  lies : 0 ≤ p.lies ∧ p.lies ≤ 3
  wait : 0 ≤ p.wait ∧ p.wait ≤ 5
  last : -1 ≤ p.last ∧ p.last ≤ now
  many : p.nots.length ≤ 376
  asked : (p.wait = 0 ∧ p.asked.toList = []) ∨ (0 < p.wait ∧ (p.asked.size : Int) = wd)
  nots : okSums wd p.nots
/-- What a valid fetch is. -/
structure ValidF (nm : ByteArray) (now wd room : Int) (its : Itms) (ts : List ByteArray) (ps : Prs) : Prop where
  store : ValidSt wd room its ts
  name : inB ts nm = true
  time : 0 ≤ now ∧ now ≤ 1000000
  count : 1 ≤ ps.length ∧ ps.length ≤ 5
  each : ∀ i, i < ps.length → PrOk now wd (pat ps i)
set_option maxRecDepth 100000 in
set_option maxHeartbeats 4000000 in
theorem specValidFetch_any (nm : ByteArray) (now : Int) (full : Bool) (wd room : Int) (vi vp vq : Value) (its : Itms) (ts : List ByteArray) (ps : Prs) (w : World) (hi : RdI w vi its) (hp : Reads w vp ts) (hq : RdP w vq ps) (hli : its.length ≤ 1048576) (hlp : ts.length ≤ 1048576) (hlq : ps.length ≤ 1048576) (hsi : ∀ i, (itx its i).size ≤ 1048576) (hsp : ∀ i, (tv ts i).size ≤ 1048576) (hf : PsFit 1048576 ps) :
    Calls Tryz.prog 19 #[fval nm now full wd room vi vp vq] w fun e w' => VRes (ValidF nm now wd room its ts ps) w e w' := by
  have hA := (Below.refl w.heap.size w).alloc (Nat.le_refl _) (.cells (fcells nm now full wd room vi vp vq) 37)
  have HV := hid (specValidStore_any wd room vi vp its ts _ (hi.below hA) (hp.below hA) hli hlp hsi hsp)
  have HN := hid (Blk.new w 37 (fcells nm now full wd room vi vp vq))
  have HP := hid (hp.below hA)
  have HQ := hid (hq.below hA)
  have HA := hid hA
  have HF := hid hf
  obtain ⟨ai, ci, rfl, _⟩ := hi
  obtain ⟨ap, cp, rfl, _⟩ := hp.form
  obtain ⟨aq, cq, rfl, _⟩ := hq
  clear hp hA hsi hsp hf
  go_enter Tryz.func19, Tryz.ntmps19
  go_wp2_with fail
  refine HV.out.mono ?_
  rintro e w1 ⟨b, rfl, hb, hb1⟩
  have N1 := HN.out.below hb1
  have B1 := HA.out.trans (hb1.mono (by simp))
  have P1 := HP.out.below hb1
  have Q1 := HQ.out.below hb1
  have HB1 := hid B1
  cases b with
  | false =>
    have HNO : Hid (¬ ValidF nm now wd room its ts ps) := fun h => by have := hb.2 h.store; cases this
    clear hb hb1 N1 B1 P1 Q1
    go_wp2
    go_ret
    exact VRes.no HNO.out HB1.out
  | true =>
  have HST := hid (hb.1 rfl)
  have HN1 := hid N1
  have HQ1 := hid Q1
  have hs1 := hb1.size
  rw [World.size_alloc] at hs1
  have HIN := hid (l2In_in (.slice ap ts.length cp) ts nm w1 P1 (by unfold maxLen; omega))
  have c0 : w1.cell? ⟨w.heap.size, 0, none⟩ = some (.string nm) := N1.cell 0
  have c1 : w1.cell? ⟨w.heap.size, 1, none⟩ = some (.int .i64 now) := N1.cell 1
  have c6 : w1.cell? ⟨w.heap.size, 6, none⟩ = some (.slice ap ts.length cp) := N1.cell 6
  have c7 : w1.cell? ⟨w.heap.size, 7, none⟩ = some (.slice aq ps.length cq) := N1.cell 7
  clear hb hb1 N1 B1 P1 Q1
  cases hin : inB ts nm with
  | false =>
    rw [hin] at HIN
    have HNO : Hid (¬ ValidF nm now wd room its ts ps) := fun h => by have := h.name; rw [hin] at this; cases this
    clear hin
    go_wp2_with fail
    refine HIN.out.mono ?_
    rintro e w2 ⟨rfl, rfl⟩
    go_wp2
    go_ret
    exact VRes.no HNO.out HB1.out
  | true =>
  rw [hin] at HIN
  have HNM := hid hin
  clear hin
  by_cases hnow : 0 ≤ now ∧ now ≤ 1000000
  case neg =>
    have HNO : Hid (¬ ValidF nm now wd room its ts ps) := fun h => hnow h.time
    have HL := hid fun W => l1In_no now 0 1000000 W hnow
    clear hnow
    go_wp2_with fail
    refine HIN.out.mono ?_
    rintro e w2 ⟨rfl, rfl⟩
    go_wp2_with fail
    refine (HL.out _).mono ?_
    rintro e w2 ⟨rfl, rfl⟩
    go_wp2
    go_ret
    exact VRes.no HNO.out HB1.out
  have HL := hid fun W => l1In_yes now 0 1000000 W hnow
  by_cases hct : 1 ≤ ps.length ∧ ps.length ≤ 5
  case neg =>
    have HNO : Hid (¬ ValidF nm now wd room its ts ps) := fun h => hct h.count
    have HL2 := hid fun W => l1In_no (ps.length : Int) 1 5 W (fun h => hct (by omega))
    clear hct hnow
    go_wp2_with fail
    refine HIN.out.mono ?_
    rintro e w2 ⟨rfl, rfl⟩
    go_wp2_with fail
    refine (HL.out _).mono ?_
    rintro e w2 ⟨rfl, rfl⟩
    go_wp2_with fail
    refine (HL2.out _).mono ?_
    rintro e w2 ⟨rfl, rfl⟩
    go_wp2
    go_ret
    exact VRes.no HNO.out HB1.out
  have HL2 := hid fun W => l1In_yes (ps.length : Int) 1 5 W (by omega)
  have HALL : Hid ((∀ i, i < ps.length → PrOk now wd (pat ps i)) → ValidF nm now wd room its ts ps) := fun h => ⟨HST.out, HNM.out, hnow, hct, h⟩
  have HWD := hid HST.out.width
  clear hnow
  obtain ⟨hct1, hct5⟩ := hct
  go_wp2_with fail
  refine HIN.out.mono ?_
  rintro e w2 ⟨rfl, rfl⟩
  go_wp2_with fail
  refine (HL.out _).mono ?_
  rintro e w2 ⟨rfl, rfl⟩
  go_wp2_with fail
  refine (HL2.out _).mono ?_
  rintro e w2 ⟨rfl, rfl⟩
  go_wp2
  clear c0 c1 c6 c7
  go_loopw [3] (fun i wr => ∃ k : Nat, k ≤ ps.length ∧ i = .int .i64 k ∧ (∀ j, j < k → PrOk now wd (pat ps j)) ∧ Below w2.heap.size w2 wr) (fun i _ => ps.length - (intOf i).toNat)
  case atStart => exact ⟨0, Nat.zero_le _, rfl, fun j hj => absurd hj (by omega), Below.refl _ _⟩
  case round =>
    obtain ⟨k, hk, rfl, hok, hbl⟩ := hrel
    obtain ⟨w5, rfl⟩ : ∃ x, x = wr := ⟨_, rfl⟩
    have HOK := hid hok
    have HBL := hid hbl
    have NR := HN1.out.below hbl
    have HNR := hid NR
    have hsr := hbl.size
    have HBW := hid (HB1.out.trans (hbl.mono HB1.out.size))
    clear hok
    by_cases hlt : k < ps.length
    case neg =>
      obtain rfl : k = ps.length := by omega
      have c7 : w5.cell? ⟨w.heap.size, 7, none⟩ = some (.slice aq ps.length cq) := NR.cell 7
      clear NR hbl
      go_wp2
      go_ret
      exact VRes.yes (HALL.out HOK.out) HBW.out
    obtain ⟨aq', cq', e', hc⟩ := HQ1.out.below hbl
    cases e'
    obtain ⟨b0, o0, vn, rfl, h5⟩ := hc k hlt
    have hfk := HF.out k hlt
    have c7 : w5.cell? ⟨w.heap.size, 7, none⟩ = some (.slice (some ⟨b0, o0, none⟩) ps.length cq) := NR.cell 7
    have HPK : Hid (PrOk now wd (pat ps k) → ∀ j, j < k + 1 → PrOk now wd (pat ps j)) := fun h j hj => (Nat.lt_or_eq_of_le (Nat.le_of_lt_succ hj)).elim (HOK.out j) (fun e => e ▸ h)
    have HNV : Hid (¬ PrOk now wd (pat ps k) → ¬ ValidF nm now wd room its ts ps) := fun h hv => h (hv.each k hlt)
    generalize pat ps k = p at *
    obtain ⟨pl, pw, pt, pa, pn⟩ := p
    obtain ⟨x0, x1, x2, x3, x4, x5, x6⟩ := h5
    dsimp only at x1 x2 x3 x4 x5 x6
    have hpa := hfk.asked
    have hpn := hfk.nots
    have hpe := hfk.each
    dsimp only at hpa hpn hpe
    have HPE := hid hpe
    obtain ⟨an, cn, rfl, hcn⟩ := x6.form
    have HCN : Hid (∀ i, i < pn.length → ∃ b off, an = some ⟨b, off, none⟩ ∧ b < w5.heap.size ∧ w5.cell? ⟨b, off + i, none⟩ = some (.string (tv pn i))) := hcn
    have HNP := hid (Blk.new w5 81 #[.int .i64 pl, .int .i64 pw, .int .i64 pt, .string pa, .slice an pn.length cn])
    have hAR := (Below.refl w5.heap.size w5).alloc (Nat.le_refl _) (.cells #[.int .i64 pl, .int .i64 pw, .int .i64 pt, .string pa, .slice an pn.length cn] 81)
    have HAR := hid hAR
    have HBW2 := hid (HBW.out.trans (hAR.mono HBW.out.size))
    have m1 : ∀ o, (w5.alloc o).cell? ⟨w.heap.size, 1, none⟩ = some (.int .i64 now) := fun o => (NR.alloc o).cell 1
    have m3 : ∀ o, (w5.alloc o).cell? ⟨w.heap.size, 3, none⟩ = some (.int .i64 wd) := fun o => (NR.alloc o).cell 3
    clear hfk hpe x6 hcn hAR NR hbl hc
    have hfw : w.heap.size < w5.heap.size := by omega
    by_cases q1 : 0 ≤ pl ∧ pl ≤ 3
    case neg =>
      have HNO := hid (HNV.out (fun h => q1 (h.lies)))
      have HLx := hid fun W => l1In_no pl 0 3 W q1
      go_wp2_with fail
      refine (HLx.out _).mono ?_
      rintro e w3 ⟨rfl, rfl⟩
      go_wp2
      go_ret
      exact VRes.no HNO.out HBW2.out
    have HL3 := hid fun W => l1In_yes pl 0 3 W q1
    by_cases q2 : 0 ≤ pw ∧ pw ≤ 5
    case neg =>
      have HNO := hid (HNV.out (fun h => q2 (h.wait)))
      have HLx := hid fun W => l1In_no pw 0 5 W q2
      go_wp2_with fail
      refine (HL3.out _).mono ?_
      rintro e w3 ⟨rfl, rfl⟩
      go_wp2_with fail
      refine (HLx.out _).mono ?_
      rintro e w3 ⟨rfl, rfl⟩
      go_wp2
      go_ret
      exact VRes.no HNO.out HBW2.out
    have HL4 := hid fun W => l1In_yes pw 0 5 W q2
    by_cases q3 : -1 ≤ pt ∧ pt ≤ now
    case neg =>
      have HNO := hid (HNV.out (fun h => q3 (h.last)))
      have HLx := hid fun W => l1In_no pt (-1) now W q3
      go_wp2_with fail
      refine (HL3.out _).mono ?_
      rintro e w3 ⟨rfl, rfl⟩
      go_wp2_with fail
      refine (HL4.out _).mono ?_
      rintro e w3 ⟨rfl, rfl⟩
      go_wp2_with fail
      refine (HLx.out _).mono ?_
      rintro e w3 ⟨rfl, rfl⟩
      go_wp2
      go_ret
      exact VRes.no HNO.out HBW2.out
    have HL5 := hid fun W => l1In_yes pt (-1) now W q3
    by_cases q4 : pn.length ≤ 376
    case neg =>
      have HNO := hid (HNV.out (fun h => q4 h.many))
      go_wp2_with fail
      refine (HL3.out _).mono ?_
      rintro e w3 ⟨rfl, rfl⟩
      go_wp2_with fail
      refine (HL4.out _).mono ?_
      rintro e w3 ⟨rfl, rfl⟩
      go_wp2_with fail
      refine (HL5.out _).mono ?_
      rintro e w3 ⟨rfl, rfl⟩
      go_wp2
      go_ret
      exact VRes.no HNO.out HBW2.out
    by_cases q5 : (pw = 0 ∧ pa.toList = []) ∨ (0 < pw ∧ (pa.size : Int) = wd)
    case neg =>
      have HNO := hid (HNV.out (fun h => q5 h.asked))
      go_wp2_with fail
      refine (HL3.out _).mono ?_
      rintro e w3 ⟨rfl, rfl⟩
      go_wp2_with fail
      refine (HL4.out _).mono ?_
      rintro e w3 ⟨rfl, rfl⟩
      go_wp2_with fail
      refine (HL5.out _).mono ?_
      rintro e w3 ⟨rfl, rfl⟩
      by_cases q6 : pw = 0
      · have q7 : (pa.toList == []) = false := by
          rw [beq_eq_false_iff_ne]
          exact fun h => q5 (.inl ⟨q6, h⟩)
        subst q6
        clear q5 q2
        go_wp2
        go_ret
        exact VRes.no HNO.out HBW2.out
      · have q7 : 0 < pw := by omega
        have q8 : ¬ ((pa.size : Int) = wd) := fun h => q5 (.inr ⟨q7, h⟩)
        have q9 : (pw == 0) = false := by rw [beq_eq_false_iff_ne]; exact q6
        clear q5
        go_wp2
        go_ret
        exact VRes.no HNO.out HBW2.out
    have HOKP : Hid (okSums wd pn → PrOk now wd ⟨pl, pw, pt, pa, pn⟩) := fun h => ⟨q1, q2, q3, q4, q5, h⟩
    go_wp2_with fail
    refine (HL3.out _).mono ?_
    rintro e w3 ⟨rfl, rfl⟩
    go_wp2_with fail
    refine (HL4.out _).mono ?_
    rintro e w3 ⟨rfl, rfl⟩
    go_wp2_with fail
    refine (HL5.out _).mono ?_
    rintro e w3 ⟨rfl, rfl⟩
    go_upto_region 9 with fail
    go_cut [89] from 32 to 124 (fun s89 wx => s89 = .bool false ∧ wx = w5.alloc (.cells #[.int .i64 pl, .int .i64 pw, .int .i64 pt, .string pa, .slice an pn.length cn] 81))
    case first =>
      rcases q5 with ⟨q6, q7⟩ | ⟨q6, q7⟩
      · have q8 : (pa.toList == []) = true := by rw [q7]; rfl
        subst q6
        clear q2 q7
        go_wp2_with fail
        go_meet
        exact ⟨rfl, rfl⟩
      · have q9 : (pw == 0) = false := by rw [beq_eq_false_iff_ne]; omega
        go_wp2_with fail
        go_meet
        exact ⟨rfl, rfl⟩
    case rest =>
      obtain ⟨rfl, rfl⟩ := hcut
      clear q1 q2 q3 q5 x1 x2 x3 x4 x5 c7
      go_wp2
      go_loopw [5] (fun i wr => ∃ j : Nat, j ≤ pn.length ∧ i = .int .i64 j ∧ (∀ x, x < j → okAt wd pn x) ∧ Below (w5.heap.size + 1) (w5.alloc (.cells #[.int .i64 pl, .int .i64 pw, .int .i64 pt, .string pa, .slice an pn.length cn] 81)) wr) (fun i _ => pn.length - (intOf i).toNat)
      case atStart => exact ⟨0, Nat.zero_le _, rfl, fun j hj => absurd hj (by omega), Below.refl _ _⟩
      case round =>
        obtain ⟨k, hk5, rfl, hoi, hbi⟩ := hrel
        have HOI := hid hoi
        have hbi' : Below (w5.alloc (.cells #[.int .i64 pl, .int .i64 pw, .int .i64 pt, .string pa, .slice an pn.length cn] 81)).heap.size (w5.alloc (.cells #[.int .i64 pl, .int .i64 pw, .int .i64 pt, .string pa, .slice an pn.length cn] 81)) wr := by rw [World.size_alloc]; exact hbi
        have NI := HNP.out.below hbi'
        have n4 : wr.cell? ⟨w5.heap.size, 4, none⟩ = some (.slice an pn.length cn) := NI.cell 4
        have m3 : wr.cell? ⟨w.heap.size, 3, none⟩ = some (.int .i64 wd) := (hbi.cell (p := ⟨w.heap.size, 3, none⟩) (by show w.heap.size < _; omega)).trans (m3 _)
        have HBI := hid (HBW2.out.trans (hbi'.mono HBW2.out.size))
        have HBO := hid (HAR.out.trans (hbi.mono (by omega)))
        clear hoi
        by_cases hlt5 : k < pn.length
        case neg =>
          obtain rfl : k = pn.length := by omega
          have HBO2 := hid (HBL.out.trans (HBO.out.mono HBL.out.size))
          clear hbi hbi' NI
          go_wp2
          refine ⟨⟨_, by omega, by go_num, HPK.out (HOKP.out HOI.out), HBO2.out⟩, by simp [intOf]; omega⟩
        obtain ⟨b1, o1, rfl, hb1, hc1⟩ := HCN.out k hlt5
        have hd1 := (hbi.cell (p := ⟨b1, o1 + k, none⟩) (by show b1 < _; omega)).trans ((Below.refl w5.heap.size w5 |>.alloc (Nat.le_refl _) (.cells #[.int .i64 pl, .int .i64 pw, .int .i64 pt, .string pa, .slice (some ⟨b1, o1, none⟩) pn.length cn] 81) |>.cell (p := ⟨b1, o1 + k, none⟩) hb1).trans hc1)
        have hz := HPE.out k
        by_cases hs : ((tv pn k).size : Int) = wd
        case neg =>
          have HNO := hid (HNV.out (fun h => hs (h.nots k hlt5).1))
          generalize tv pn k = t at *
          clear hc1 hbi hbi' NI
          go_wp2_with fail
          refine wp_region_held (S := fun w' => w'.cell? ⟨w5.heap.size, 4, none⟩ = some (.slice (some ⟨b1, o1, none⟩) pn.length cn) ∧ w'.cell? ⟨w.heap.size, 3, none⟩ = some (.int .i64 wd) ∧ w'.cell? ⟨b1, o1 + k, none⟩ = some (.string t)) (by kernel_rfl) ?_
          change wpAnyH _ _ _ _ _ _ _ _ (World.drew _)
          have hS0 : wr.drew.cell? ⟨w5.heap.size, 4, none⟩ = some (.slice (some ⟨b1, o1, none⟩) pn.length cn) ∧ wr.drew.cell? ⟨w.heap.size, 3, none⟩ = some (.int .i64 wd) ∧ wr.drew.cell? ⟨b1, o1 + k, none⟩ = some (.string t) := ⟨n4, m3, hd1⟩
          refine wpAnyH_take (i := 0) (v := .pointer (some ⟨w5.heap.size, 4, none⟩)) rfl (by kernel_rfl) (by kernel_rfl) (by kernel_rfl) (fun _ _ _ h => h) (.inl ⟨rfl, fun w' hS => by obtain ⟨s1, s2, s3⟩ := hS; go_simp⟩) hS0 ?_
          refine wpAnyH_take (i := 1) (v := .slice (some ⟨b1, o1, none⟩) pn.length cn) rfl (by kernel_rfl) (by kernel_rfl) (by kernel_rfl) (fun _ _ _ h => h) (.inl ⟨rfl, fun w' hS => by obtain ⟨s1, s2, s3⟩ := hS; go_simp⟩) hS0 ?_
          refine wpAnyH_take (i := 2) (v := .int .i64 (k : Nat)) rfl (by kernel_rfl) (by kernel_rfl) (by kernel_rfl) (fun _ _ _ h => h) (.inl ⟨rfl, fun w' hS => by obtain ⟨s1, s2, s3⟩ := hS; go_simp⟩) hS0 ?_
          refine wpAnyH_take (i := 3) (v := .pointer (some ⟨b1, o1 + k, none⟩)) rfl (by kernel_rfl) (by kernel_rfl) (by kernel_rfl) (fun _ _ _ h => h) (.inl ⟨rfl, fun w' hS => by obtain ⟨s1, s2, s3⟩ := hS; go_simp⟩) hS0 ?_
          refine wpAnyH_take (i := 4) (v := .string t) rfl (by kernel_rfl) (by kernel_rfl) (by kernel_rfl) (fun _ _ _ h => h) (.inl ⟨rfl, fun w' hS => by obtain ⟨s1, s2, s3⟩ := hS; go_simp⟩) hS0 ?_
          refine wpAnyH_take (i := 5) (v := .int .i64 t.size) rfl (by kernel_rfl) (by kernel_rfl) (by kernel_rfl) (fun _ _ _ h => h) (.inl ⟨rfl, fun w' hS => by obtain ⟨s1, s2, s3⟩ := hS; go_simp⟩) hS0 ?_
          refine wpAnyH_take (i := 6) (v := .pointer (some ⟨w.heap.size, 3, none⟩)) rfl (by kernel_rfl) (by kernel_rfl) (by kernel_rfl) (fun _ _ _ h => h) (.inl ⟨rfl, fun w' hS => by obtain ⟨s1, s2, s3⟩ := hS; go_simp⟩) hS0 ?_
          refine wpAnyH_take (i := 7) (v := .pointer (some ⟨w.heap.size, 3, none⟩)) rfl (by kernel_rfl) (by kernel_rfl) (by kernel_rfl) (fun _ _ _ h => h) (.inl ⟨rfl, fun w' hS => by obtain ⟨s1, s2, s3⟩ := hS; go_simp⟩) hS0 ?_
          refine wpAnyH_take (i := 8) (v := .int .i64 wd) rfl (by kernel_rfl) (by kernel_rfl) (by kernel_rfl) (fun _ _ _ h => h) (.inl ⟨rfl, fun w' hS => by obtain ⟨s1, s2, s3⟩ := hS; go_simp⟩) hS0 ?_
          refine wpAnyH_take (i := 9) (v := .bool true) rfl (by kernel_rfl) (by kernel_rfl) (by kernel_rfl) (fun _ _ _ h => h) (.inl ⟨rfl, fun w' hS => by obtain ⟨s1, s2, s3⟩ := hS; go_simp⟩) hS0 ?_
          refine wpAnyH_take (i := 10) (v := .bool true) rfl (by kernel_rfl) (by kernel_rfl) (by kernel_rfl) (fun _ _ _ h => h) (.inl ⟨rfl, fun w' hS => by obtain ⟨s1, s2, s3⟩ := hS; go_simp⟩) hS0 ?_
          refine wpAnyH_take (i := 11) (v := undef) rfl (by kernel_rfl) (by kernel_rfl) (by kernel_rfl) (fun _ _ _ h => h) (.inr ⟨by first | (go_simp; done) | (go_simp; simp [undef]), rfl⟩) hS0 ?_
          refine wpAnyH_take (i := 12) (v := undef) rfl (by kernel_rfl) (by kernel_rfl) (by kernel_rfl) (fun _ _ _ h => h) (.inr ⟨by first | (go_simp; done) | (go_simp; simp [undef]), rfl⟩) hS0 ?_
          refine wpAnyH_take (i := 13) (v := undef) rfl (by kernel_rfl) (by kernel_rfl) (by kernel_rfl) (fun _ _ _ h => h) (.inr ⟨by first | (go_simp; done) | (go_simp; simp [undef]), rfl⟩) hS0 ?_
          refine wpAnyH_take (i := 14) (v := undef) rfl (by kernel_rfl) (by kernel_rfl) (by kernel_rfl) (fun _ _ _ h => h) (.inr ⟨by first | (go_simp; done) | (go_simp; simp [undef]), rfl⟩) hS0 ?_
          refine wpAnyH_take (i := 15) (v := undef) rfl (by kernel_rfl) (by kernel_rfl) (by kernel_rfl) (fun _ _ _ h => h) (.inr ⟨by first | (go_simp; done) | (go_simp; simp [undef]), rfl⟩) hS0 ?_
          refine wpAnyH_take (i := 16) (v := undef) rfl (by kernel_rfl) (by kernel_rfl) (by kernel_rfl) (fun _ _ _ h => h) (.inr ⟨by first | (go_simp; done) | (go_simp; simp [undef]), rfl⟩) hS0 ?_
          refine wpAnyH_take (i := 17) (v := undef) rfl (by kernel_rfl) (by kernel_rfl) (by kernel_rfl) (fun _ _ _ h => h) (.inr ⟨by first | (go_simp; done) | (go_simp; simp [undef]), rfl⟩) hS0 ?_
          refine wpAnyH_take (i := 18) (v := undef) rfl (by kernel_rfl) (by kernel_rfl) (by kernel_rfl) (fun _ _ _ h => h) (.inr ⟨by first | (go_simp; done) | (go_simp; simp [undef]), rfl⟩) hS0 ?_
          refine wpAnyH_take (i := 19) (v := undef) rfl (by kernel_rfl) (by kernel_rfl) (by kernel_rfl) (fun _ _ _ h => h) (.inr ⟨by first | (go_simp; done) | (go_simp; simp [undef]), rfl⟩) hS0 ?_
          refine wpAnyH_take (i := 20) (v := undef) rfl (by kernel_rfl) (by kernel_rfl) (by kernel_rfl) (fun _ _ _ h => h) (.inr ⟨by first | (go_simp; done) | (go_simp; simp [undef]), rfl⟩) hS0 ?_
          refine wpAnyH_take (i := 21) (v := undef) rfl (by kernel_rfl) (by kernel_rfl) (by kernel_rfl) (fun _ _ _ h => h) (.inr ⟨by first | (go_simp; done) | (go_simp; simp [undef]), rfl⟩) hS0 ?_
          refine wpAnyH_take (i := 22) (v := undef) rfl (by kernel_rfl) (by kernel_rfl) (by kernel_rfl) (fun _ _ _ h => h) (.inr ⟨by first | (go_simp; done) | (go_simp; simp [undef]), rfl⟩) hS0 ?_
          refine wpAnyH_take (i := 23) (v := undef) rfl (by kernel_rfl) (by kernel_rfl) (by kernel_rfl) (fun _ _ _ h => h) (.inr ⟨by first | (go_simp; done) | (go_simp; simp [undef]), rfl⟩) hS0 ?_
          refine wpAnyH_take (i := 24) (v := undef) rfl (by kernel_rfl) (by kernel_rfl) (by kernel_rfl) (fun _ _ _ h => h) (.inr ⟨by first | (go_simp; done) | (go_simp; simp [undef]), rfl⟩) hS0 ?_
          refine wpAnyH_take (i := 25) (v := undef) rfl (by kernel_rfl) (by kernel_rfl) (by kernel_rfl) (fun _ _ _ h => h) (.inr ⟨by first | (go_simp; done) | (go_simp; simp [undef]), rfl⟩) hS0 ?_
          refine wpAnyH_take (i := 26) (v := undef) rfl (by kernel_rfl) (by kernel_rfl) (by kernel_rfl) (fun _ _ _ h => h) (.inr ⟨by first | (go_simp; done) | (go_simp; simp [undef]), rfl⟩) hS0 ?_
          refine wpAnyH_take (i := 27) (v := .bool true) rfl (by kernel_rfl) (by kernel_rfl) (by kernel_rfl) (fun _ _ _ h => h) (.inl ⟨rfl, fun w' hS => by obtain ⟨s1, s2, s3⟩ := hS; go_simp⟩) hS0 ?_
          refine wpAnyH_done (by kernel_rfl) ?_ _
          clear hS0
          go_simp
          go_wp2
          go_ret
          exact VRes.no HNO.out (HBI.out.trans (below_drewN (Below.refl _ _) 1))
        cases k with
        | zero =>
          have HA0 : Hid (okAt wd pn 0) := ⟨hs, fun h => absurd h (by omega)⟩
          have HBX := hid (hbi.trans (below_drewN (Below.refl _ _) 1))
          generalize tv pn 0 = t at *
          rw [Nat.add_zero] at hd1
          clear hc1 hbi hbi' NI
          go_wp2_with fail
          refine wp_region_held (S := fun w' => w'.cell? ⟨w5.heap.size, 4, none⟩ = some (.slice (some ⟨b1, o1, none⟩) pn.length cn) ∧ w'.cell? ⟨w.heap.size, 3, none⟩ = some (.int .i64 wd) ∧ w'.cell? ⟨b1, o1, none⟩ = some (.string t)) (by kernel_rfl) ?_
          change wpAnyH _ _ _ _ _ _ _ _ (World.drew _)
          have hS0 : wr.drew.cell? ⟨w5.heap.size, 4, none⟩ = some (.slice (some ⟨b1, o1, none⟩) pn.length cn) ∧ wr.drew.cell? ⟨w.heap.size, 3, none⟩ = some (.int .i64 wd) ∧ wr.drew.cell? ⟨b1, o1, none⟩ = some (.string t) := ⟨n4, m3, hd1⟩
          refine wpAnyH_take (i := 0) (v := .pointer (some ⟨w5.heap.size, 4, none⟩)) rfl (by kernel_rfl) (by kernel_rfl) (by kernel_rfl) (fun _ _ _ h => h) (.inl ⟨rfl, fun w' hS => by obtain ⟨s1, s2, s3⟩ := hS; go_simp⟩) hS0 ?_
          refine wpAnyH_take (i := 1) (v := .slice (some ⟨b1, o1, none⟩) pn.length cn) rfl (by kernel_rfl) (by kernel_rfl) (by kernel_rfl) (fun _ _ _ h => h) (.inl ⟨rfl, fun w' hS => by obtain ⟨s1, s2, s3⟩ := hS; go_simp⟩) hS0 ?_
          refine wpAnyH_take (i := 2) (v := .int .i64 (0 : Nat)) rfl (by kernel_rfl) (by kernel_rfl) (by kernel_rfl) (fun _ _ _ h => h) (.inl ⟨rfl, fun w' hS => by obtain ⟨s1, s2, s3⟩ := hS; go_simp⟩) hS0 ?_
          refine wpAnyH_take (i := 3) (v := .pointer (some ⟨b1, o1, none⟩)) rfl (by kernel_rfl) (by kernel_rfl) (by kernel_rfl) (fun _ _ _ h => h) (.inl ⟨rfl, fun w' hS => by obtain ⟨s1, s2, s3⟩ := hS; go_simp⟩) hS0 ?_
          refine wpAnyH_take (i := 4) (v := .string t) rfl (by kernel_rfl) (by kernel_rfl) (by kernel_rfl) (fun _ _ _ h => h) (.inl ⟨rfl, fun w' hS => by obtain ⟨s1, s2, s3⟩ := hS; go_simp⟩) hS0 ?_
          refine wpAnyH_take (i := 5) (v := .int .i64 t.size) rfl (by kernel_rfl) (by kernel_rfl) (by kernel_rfl) (fun _ _ _ h => h) (.inl ⟨rfl, fun w' hS => by obtain ⟨s1, s2, s3⟩ := hS; go_simp⟩) hS0 ?_
          refine wpAnyH_take (i := 6) (v := .pointer (some ⟨w.heap.size, 3, none⟩)) rfl (by kernel_rfl) (by kernel_rfl) (by kernel_rfl) (fun _ _ _ h => h) (.inl ⟨rfl, fun w' hS => by obtain ⟨s1, s2, s3⟩ := hS; go_simp⟩) hS0 ?_
          refine wpAnyH_take (i := 7) (v := .pointer (some ⟨w.heap.size, 3, none⟩)) rfl (by kernel_rfl) (by kernel_rfl) (by kernel_rfl) (fun _ _ _ h => h) (.inl ⟨rfl, fun w' hS => by obtain ⟨s1, s2, s3⟩ := hS; go_simp⟩) hS0 ?_
          refine wpAnyH_take (i := 8) (v := .int .i64 wd) rfl (by kernel_rfl) (by kernel_rfl) (by kernel_rfl) (fun _ _ _ h => h) (.inl ⟨rfl, fun w' hS => by obtain ⟨s1, s2, s3⟩ := hS; go_simp⟩) hS0 ?_
          refine wpAnyH_take (i := 9) (v := .bool false) rfl (by kernel_rfl) (by kernel_rfl) (by kernel_rfl) (fun _ _ _ h => h) (.inl ⟨rfl, fun w' hS => by obtain ⟨s1, s2, s3⟩ := hS; go_simp⟩) hS0 ?_
          refine wpAnyH_take (i := 10) (v := .bool false) rfl (by kernel_rfl) (by kernel_rfl) (by kernel_rfl) (fun _ _ _ h => h) (.inl ⟨rfl, fun w' hS => by obtain ⟨s1, s2, s3⟩ := hS; go_simp⟩) hS0 ?_
          refine wpAnyH_take (i := 11) (v := .int .i64 (0 : Nat)) rfl (by kernel_rfl) (by kernel_rfl) (by kernel_rfl) (fun _ _ _ h => h) (.inl ⟨by go_simp, fun w' hS => by obtain ⟨s1, s2, s3⟩ := hS; go_simp⟩) hS0 ?_
          refine wpAnyH_take (i := 12) (v := .bool false) rfl (by kernel_rfl) (by kernel_rfl) (by kernel_rfl) (fun _ _ _ h => h) (.inl ⟨by go_simp, fun w' hS => by obtain ⟨s1, s2, s3⟩ := hS; go_simp⟩) hS0 ?_
          refine wpAnyH_take (i := 13) (v := .bool false) rfl (by kernel_rfl) (by kernel_rfl) (by kernel_rfl) (fun _ _ _ h => h) (.inl ⟨by go_simp, fun w' hS => by obtain ⟨s1, s2, s3⟩ := hS; go_simp⟩) hS0 ?_
          refine wpAnyH_take (i := 14) (v := undef) rfl (by kernel_rfl) (by kernel_rfl) (by kernel_rfl) (fun _ _ _ h => h) (.inr ⟨by first | (go_simp; done) | (go_simp; simp [undef]), rfl⟩) hS0 ?_
          refine wpAnyH_take (i := 15) (v := undef) rfl (by kernel_rfl) (by kernel_rfl) (by kernel_rfl) (fun _ _ _ h => h) (.inr ⟨by first | (go_simp; done) | (go_simp; simp [undef]), rfl⟩) hS0 ?_
          refine wpAnyH_take (i := 16) (v := undef) rfl (by kernel_rfl) (by kernel_rfl) (by kernel_rfl) (fun _ _ _ h => h) (.inr ⟨by first | (go_simp; done) | (go_simp; simp [undef]), rfl⟩) hS0 ?_
          refine wpAnyH_take (i := 17) (v := undef) rfl (by kernel_rfl) (by kernel_rfl) (by kernel_rfl) (fun _ _ _ h => h) (.inr ⟨by first | (go_simp; done) | (go_simp; simp [undef]), rfl⟩) hS0 ?_
          refine wpAnyH_take (i := 18) (v := undef) rfl (by kernel_rfl) (by kernel_rfl) (by kernel_rfl) (fun _ _ _ h => h) (.inr ⟨by first | (go_simp; done) | (go_simp; simp [undef]), rfl⟩) hS0 ?_
          refine wpAnyH_take (i := 19) (v := undef) rfl (by kernel_rfl) (by kernel_rfl) (by kernel_rfl) (fun _ _ _ h => h) (.inr ⟨by first | (go_simp; done) | (go_simp; simp [undef]), rfl⟩) hS0 ?_
          refine wpAnyH_take (i := 20) (v := undef) rfl (by kernel_rfl) (by kernel_rfl) (by kernel_rfl) (fun _ _ _ h => h) (.inr ⟨by first | (go_simp; done) | (go_simp; simp [undef]), rfl⟩) hS0 ?_
          refine wpAnyH_take (i := 21) (v := undef) rfl (by kernel_rfl) (by kernel_rfl) (by kernel_rfl) (fun _ _ _ h => h) (.inr ⟨by first | (go_simp; done) | (go_simp; simp [undef]), rfl⟩) hS0 ?_
          refine wpAnyH_take (i := 22) (v := undef) rfl (by kernel_rfl) (by kernel_rfl) (by kernel_rfl) (fun _ _ _ h => h) (.inr ⟨by first | (go_simp; done) | (go_simp; simp [undef]), rfl⟩) hS0 ?_
          refine wpAnyH_take (i := 23) (v := undef) rfl (by kernel_rfl) (by kernel_rfl) (by kernel_rfl) (fun _ _ _ h => h) (.inr ⟨by first | (go_simp; done) | (go_simp; simp [undef]), rfl⟩) hS0 ?_
          refine wpAnyH_take (i := 24) (v := undef) rfl (by kernel_rfl) (by kernel_rfl) (by kernel_rfl) (fun _ _ _ h => h) (.inr ⟨by first | (go_simp; done) | (go_simp; simp [undef]), rfl⟩) hS0 ?_
          refine wpAnyH_take (i := 25) (v := undef) rfl (by kernel_rfl) (by kernel_rfl) (by kernel_rfl) (fun _ _ _ h => h) (.inr ⟨by first | (go_simp; done) | (go_simp; simp [undef]), rfl⟩) hS0 ?_
          refine wpAnyH_take (i := 26) (v := .bool false) rfl (by kernel_rfl) (by kernel_rfl) (by kernel_rfl) (fun _ _ _ h => h) (.inl ⟨by go_simp, fun w' hS => by obtain ⟨s1, s2, s3⟩ := hS; go_simp⟩) hS0 ?_
          refine wpAnyH_take (i := 27) (v := .bool false) rfl (by kernel_rfl) (by kernel_rfl) (by kernel_rfl) (fun _ _ _ h => h) (.inl ⟨rfl, fun w' hS => by obtain ⟨s1, s2, s3⟩ := hS; go_simp⟩) hS0 ?_
          refine wpAnyH_done (by kernel_rfl) ?_ _
          clear hS0
          go_simp
          go_wp2
          refine ⟨⟨1, by omega, by go_num, fun j hj => (Nat.lt_one_iff.1 hj) ▸ HA0.out, HBX.out⟩, by simp [intOf]; omega⟩
        | succ k =>
          obtain ⟨b2, o2, e2, hb2, hc2⟩ := HCN.out k (by omega)
          obtain ⟨rfl, rfl⟩ : b1 = b2 ∧ o1 = o2 := by simpa using e2
          have hd2 := (hbi.cell (p := ⟨b1, o1 + k, none⟩) (by show b1 < _; omega)).trans ((Below.refl w5.heap.size w5 |>.alloc (Nat.le_refl _) (.cells #[.int .i64 pl, .int .i64 pw, .int .i64 pt, .string pa, .slice (some ⟨b1, o1, none⟩) pn.length cn] 81) |>.cell (p := ⟨b1, o1 + k, none⟩) hb1).trans hc2)
          have hk0 : ¬ ((k : Int) + 1 < 0) := by omega
          have hk2 : ¬ (pn.length ≤ k) := by omega
          have hk3 : ¬ (pn.length ≤ k + 1) := by omega
          have hwk : IntKind.i64.wrap (k : Int) = (k : Int) := by rw [IntKind.wrap_i64]; omega
          cases hp : tlt (tv pn k) (tv pn (k + 1)) with
          | true =>
            have HA1 : Hid (okAt wd pn (k + 1)) := ⟨hs, fun h => hp⟩
            have HBX := hid (hbi.trans (below_drewN (Below.refl _ _) 1))
            unfold tlt at hp
            generalize tv pn (k + 1) = t at *
            generalize tv pn k = p at *
            clear hc1 hc2 hbi hbi' NI
            go_wp2_with fail
            refine wp_region_held (S := fun w' => w'.cell? ⟨w5.heap.size, 4, none⟩ = some (.slice (some ⟨b1, o1, none⟩) pn.length cn) ∧ w'.cell? ⟨w.heap.size, 3, none⟩ = some (.int .i64 wd) ∧ w'.cell? ⟨b1, o1 + (k + 1), none⟩ = some (.string t) ∧ w'.cell? ⟨b1, o1 + k, none⟩ = some (.string p)) (by kernel_rfl) ?_
            change wpAnyH _ _ _ _ _ _ _ _ (World.drew _)
            have hS0 : wr.drew.cell? ⟨w5.heap.size, 4, none⟩ = some (.slice (some ⟨b1, o1, none⟩) pn.length cn) ∧ wr.drew.cell? ⟨w.heap.size, 3, none⟩ = some (.int .i64 wd) ∧ wr.drew.cell? ⟨b1, o1 + (k + 1), none⟩ = some (.string t) ∧ wr.drew.cell? ⟨b1, o1 + k, none⟩ = some (.string p) := ⟨n4, m3, hd1, hd2⟩
            refine wpAnyH_take (i := 0) (v := .pointer (some ⟨w5.heap.size, 4, none⟩)) rfl (by kernel_rfl) (by kernel_rfl) (by kernel_rfl) (fun _ _ _ h => h) (.inl ⟨rfl, fun w' hS => by obtain ⟨s1, s2, s3, s4⟩ := hS; go_simp⟩) hS0 ?_
            refine wpAnyH_take (i := 1) (v := .slice (some ⟨b1, o1, none⟩) pn.length cn) rfl (by kernel_rfl) (by kernel_rfl) (by kernel_rfl) (fun _ _ _ h => h) (.inl ⟨rfl, fun w' hS => by obtain ⟨s1, s2, s3, s4⟩ := hS; go_simp⟩) hS0 ?_
            refine wpAnyH_take (i := 2) (v := .int .i64 ((k + 1 : Nat) : Int)) rfl (by kernel_rfl) (by kernel_rfl) (by kernel_rfl) (fun _ _ _ h => h) (.inl ⟨rfl, fun w' hS => by obtain ⟨s1, s2, s3, s4⟩ := hS; go_simp⟩) hS0 ?_
            refine wpAnyH_take (i := 3) (v := .pointer (some ⟨b1, o1 + (k + 1), none⟩)) rfl (by kernel_rfl) (by kernel_rfl) (by kernel_rfl) (fun _ _ _ h => h) (.inl ⟨rfl, fun w' hS => by obtain ⟨s1, s2, s3, s4⟩ := hS; go_simp⟩) hS0 ?_
            refine wpAnyH_take (i := 4) (v := .string t) rfl (by kernel_rfl) (by kernel_rfl) (by kernel_rfl) (fun _ _ _ h => h) (.inl ⟨rfl, fun w' hS => by obtain ⟨s1, s2, s3, s4⟩ := hS; go_simp⟩) hS0 ?_
            refine wpAnyH_take (i := 5) (v := .int .i64 t.size) rfl (by kernel_rfl) (by kernel_rfl) (by kernel_rfl) (fun _ _ _ h => h) (.inl ⟨rfl, fun w' hS => by obtain ⟨s1, s2, s3, s4⟩ := hS; go_simp⟩) hS0 ?_
            refine wpAnyH_take (i := 6) (v := .pointer (some ⟨w.heap.size, 3, none⟩)) rfl (by kernel_rfl) (by kernel_rfl) (by kernel_rfl) (fun _ _ _ h => h) (.inl ⟨rfl, fun w' hS => by obtain ⟨s1, s2, s3, s4⟩ := hS; go_simp⟩) hS0 ?_
            refine wpAnyH_take (i := 7) (v := .pointer (some ⟨w.heap.size, 3, none⟩)) rfl (by kernel_rfl) (by kernel_rfl) (by kernel_rfl) (fun _ _ _ h => h) (.inl ⟨rfl, fun w' hS => by obtain ⟨s1, s2, s3, s4⟩ := hS; go_simp⟩) hS0 ?_
            refine wpAnyH_take (i := 8) (v := .int .i64 wd) rfl (by kernel_rfl) (by kernel_rfl) (by kernel_rfl) (fun _ _ _ h => h) (.inl ⟨rfl, fun w' hS => by obtain ⟨s1, s2, s3, s4⟩ := hS; go_simp⟩) hS0 ?_
            refine wpAnyH_take (i := 9) (v := .bool false) rfl (by kernel_rfl) (by kernel_rfl) (by kernel_rfl) (fun _ _ _ h => h) (.inl ⟨rfl, fun w' hS => by obtain ⟨s1, s2, s3, s4⟩ := hS; go_simp⟩) hS0 ?_
            refine wpAnyH_take (i := 10) (v := .bool false) rfl (by kernel_rfl) (by kernel_rfl) (by kernel_rfl) (fun _ _ _ h => h) (.inl ⟨rfl, fun w' hS => by obtain ⟨s1, s2, s3, s4⟩ := hS; go_simp⟩) hS0 ?_
            refine wpAnyH_take (i := 11) (v := .int .i64 ((k + 1 : Nat) : Int)) rfl (by kernel_rfl) (by kernel_rfl) (by kernel_rfl) (fun _ _ _ h => h) (.inl ⟨by go_simp, fun w' hS => by obtain ⟨s1, s2, s3, s4⟩ := hS; go_simp⟩) hS0 ?_
            refine wpAnyH_take (i := 12) (v := .bool true) rfl (by kernel_rfl) (by kernel_rfl) (by kernel_rfl) (fun _ _ _ h => h) (.inl ⟨by go_simp, fun w' hS => by obtain ⟨s1, s2, s3, s4⟩ := hS; go_simp⟩) hS0 ?_
            refine wpAnyH_take (i := 13) (v := .bool true) rfl (by kernel_rfl) (by kernel_rfl) (by kernel_rfl) (fun _ _ _ h => h) (.inl ⟨by go_simp, fun w' hS => by obtain ⟨s1, s2, s3, s4⟩ := hS; go_simp⟩) hS0 ?_
            refine wpAnyH_take (i := 14) (v := .pointer (some ⟨w5.heap.size, 4, none⟩)) rfl (by kernel_rfl) (by kernel_rfl) (by kernel_rfl) (fun _ _ _ h => h) (.inl ⟨by go_simp, fun w' hS => by obtain ⟨s1, s2, s3, s4⟩ := hS; go_simp⟩) hS0 ?_
            refine wpAnyH_take (i := 15) (v := .slice (some ⟨b1, o1, none⟩) pn.length cn) rfl (by kernel_rfl) (by kernel_rfl) (by kernel_rfl) (fun _ _ _ h => h) (.inl ⟨by go_simp, fun w' hS => by obtain ⟨s1, s2, s3, s4⟩ := hS; go_simp⟩) hS0 ?_
            refine wpAnyH_take (i := 16) (v := .int .i64 ((k + 1 : Nat) : Int)) rfl (by kernel_rfl) (by kernel_rfl) (by kernel_rfl) (fun _ _ _ h => h) (.inl ⟨by go_simp, fun w' hS => by obtain ⟨s1, s2, s3, s4⟩ := hS; go_simp⟩) hS0 ?_
            refine wpAnyH_take (i := 17) (v := .int .i64 (k : Nat)) rfl (by kernel_rfl) (by kernel_rfl) (by kernel_rfl) (fun _ _ _ h => h) (.inl ⟨by go_simp, fun w' hS => by obtain ⟨s1, s2, s3, s4⟩ := hS; go_simp⟩) hS0 ?_
            refine wpAnyH_take (i := 18) (v := .pointer (some ⟨b1, o1 + k, none⟩)) rfl (by kernel_rfl) (by kernel_rfl) (by kernel_rfl) (fun _ _ _ h => h) (.inl ⟨by go_simp, fun w' hS => by obtain ⟨s1, s2, s3, s4⟩ := hS; go_simp⟩) hS0 ?_
            refine wpAnyH_take (i := 19) (v := .string p) rfl (by kernel_rfl) (by kernel_rfl) (by kernel_rfl) (fun _ _ _ h => h) (.inl ⟨by go_simp, fun w' hS => by obtain ⟨s1, s2, s3, s4⟩ := hS; go_simp⟩) hS0 ?_
            refine wpAnyH_take (i := 20) (v := .pointer (some ⟨w5.heap.size, 4, none⟩)) rfl (by kernel_rfl) (by kernel_rfl) (by kernel_rfl) (fun _ _ _ h => h) (.inl ⟨by go_simp, fun w' hS => by obtain ⟨s1, s2, s3, s4⟩ := hS; go_simp⟩) hS0 ?_
            refine wpAnyH_take (i := 21) (v := .slice (some ⟨b1, o1, none⟩) pn.length cn) rfl (by kernel_rfl) (by kernel_rfl) (by kernel_rfl) (fun _ _ _ h => h) (.inl ⟨by go_simp, fun w' hS => by obtain ⟨s1, s2, s3, s4⟩ := hS; go_simp⟩) hS0 ?_
            refine wpAnyH_take (i := 22) (v := .int .i64 ((k + 1 : Nat) : Int)) rfl (by kernel_rfl) (by kernel_rfl) (by kernel_rfl) (fun _ _ _ h => h) (.inl ⟨by go_simp, fun w' hS => by obtain ⟨s1, s2, s3, s4⟩ := hS; go_simp⟩) hS0 ?_
            refine wpAnyH_take (i := 23) (v := .pointer (some ⟨b1, o1 + (k + 1), none⟩)) rfl (by kernel_rfl) (by kernel_rfl) (by kernel_rfl) (fun _ _ _ h => h) (.inl ⟨by go_simp, fun w' hS => by obtain ⟨s1, s2, s3, s4⟩ := hS; go_simp⟩) hS0 ?_
            refine wpAnyH_take (i := 24) (v := .string t) rfl (by kernel_rfl) (by kernel_rfl) (by kernel_rfl) (fun _ _ _ h => h) (.inl ⟨by go_simp, fun w' hS => by obtain ⟨s1, s2, s3, s4⟩ := hS; go_simp⟩) hS0 ?_
            refine wpAnyH_take (i := 25) (v := .bool false) rfl (by kernel_rfl) (by kernel_rfl) (by kernel_rfl) (fun _ _ _ h => h) (.inl ⟨by go_simp, fun w' hS => by obtain ⟨s1, s2, s3, s4⟩ := hS; go_simp⟩) hS0 ?_
            refine wpAnyH_take (i := 26) (v := .bool false) rfl (by kernel_rfl) (by kernel_rfl) (by kernel_rfl) (fun _ _ _ h => h) (.inl ⟨by go_simp, fun w' hS => by obtain ⟨s1, s2, s3, s4⟩ := hS; go_simp⟩) hS0 ?_
            refine wpAnyH_take (i := 27) (v := .bool false) rfl (by kernel_rfl) (by kernel_rfl) (by kernel_rfl) (fun _ _ _ h => h) (.inl ⟨rfl, fun w' hS => by obtain ⟨s1, s2, s3, s4⟩ := hS; go_simp⟩) hS0 ?_
            refine wpAnyH_done (by kernel_rfl) ?_ _
            clear hS0
            go_simp
            go_wp2
            refine ⟨⟨k + 1 + 1, by omega, by go_num, fun j hj => (Nat.lt_or_eq_of_le (Nat.le_of_lt_succ hj)).elim (HOI.out j) (fun e => e ▸ HA1.out), HBX.out⟩, by simp [intOf]; omega⟩
          | false =>
            have HNO := hid (HNV.out (fun h => by have := (h.nots (k + 1) hlt5).2 (by omega); rw [Nat.add_sub_cancel, hp] at this; cases this))
            unfold tlt at hp
            generalize tv pn (k + 1) = t at *
            generalize tv pn k = p at *
            clear hc1 hc2 hbi hbi' NI
            go_wp2_with fail
            refine wp_region_held (S := fun w' => w'.cell? ⟨w5.heap.size, 4, none⟩ = some (.slice (some ⟨b1, o1, none⟩) pn.length cn) ∧ w'.cell? ⟨w.heap.size, 3, none⟩ = some (.int .i64 wd) ∧ w'.cell? ⟨b1, o1 + (k + 1), none⟩ = some (.string t) ∧ w'.cell? ⟨b1, o1 + k, none⟩ = some (.string p)) (by kernel_rfl) ?_
            change wpAnyH _ _ _ _ _ _ _ _ (World.drew _)
            have hS0 : wr.drew.cell? ⟨w5.heap.size, 4, none⟩ = some (.slice (some ⟨b1, o1, none⟩) pn.length cn) ∧ wr.drew.cell? ⟨w.heap.size, 3, none⟩ = some (.int .i64 wd) ∧ wr.drew.cell? ⟨b1, o1 + (k + 1), none⟩ = some (.string t) ∧ wr.drew.cell? ⟨b1, o1 + k, none⟩ = some (.string p) := ⟨n4, m3, hd1, hd2⟩
            refine wpAnyH_take (i := 0) (v := .pointer (some ⟨w5.heap.size, 4, none⟩)) rfl (by kernel_rfl) (by kernel_rfl) (by kernel_rfl) (fun _ _ _ h => h) (.inl ⟨rfl, fun w' hS => by obtain ⟨s1, s2, s3, s4⟩ := hS; go_simp⟩) hS0 ?_
            refine wpAnyH_take (i := 1) (v := .slice (some ⟨b1, o1, none⟩) pn.length cn) rfl (by kernel_rfl) (by kernel_rfl) (by kernel_rfl) (fun _ _ _ h => h) (.inl ⟨rfl, fun w' hS => by obtain ⟨s1, s2, s3, s4⟩ := hS; go_simp⟩) hS0 ?_
            refine wpAnyH_take (i := 2) (v := .int .i64 ((k + 1 : Nat) : Int)) rfl (by kernel_rfl) (by kernel_rfl) (by kernel_rfl) (fun _ _ _ h => h) (.inl ⟨rfl, fun w' hS => by obtain ⟨s1, s2, s3, s4⟩ := hS; go_simp⟩) hS0 ?_
            refine wpAnyH_take (i := 3) (v := .pointer (some ⟨b1, o1 + (k + 1), none⟩)) rfl (by kernel_rfl) (by kernel_rfl) (by kernel_rfl) (fun _ _ _ h => h) (.inl ⟨rfl, fun w' hS => by obtain ⟨s1, s2, s3, s4⟩ := hS; go_simp⟩) hS0 ?_
            refine wpAnyH_take (i := 4) (v := .string t) rfl (by kernel_rfl) (by kernel_rfl) (by kernel_rfl) (fun _ _ _ h => h) (.inl ⟨rfl, fun w' hS => by obtain ⟨s1, s2, s3, s4⟩ := hS; go_simp⟩) hS0 ?_
            refine wpAnyH_take (i := 5) (v := .int .i64 t.size) rfl (by kernel_rfl) (by kernel_rfl) (by kernel_rfl) (fun _ _ _ h => h) (.inl ⟨rfl, fun w' hS => by obtain ⟨s1, s2, s3, s4⟩ := hS; go_simp⟩) hS0 ?_
            refine wpAnyH_take (i := 6) (v := .pointer (some ⟨w.heap.size, 3, none⟩)) rfl (by kernel_rfl) (by kernel_rfl) (by kernel_rfl) (fun _ _ _ h => h) (.inl ⟨rfl, fun w' hS => by obtain ⟨s1, s2, s3, s4⟩ := hS; go_simp⟩) hS0 ?_
            refine wpAnyH_take (i := 7) (v := .pointer (some ⟨w.heap.size, 3, none⟩)) rfl (by kernel_rfl) (by kernel_rfl) (by kernel_rfl) (fun _ _ _ h => h) (.inl ⟨rfl, fun w' hS => by obtain ⟨s1, s2, s3, s4⟩ := hS; go_simp⟩) hS0 ?_
            refine wpAnyH_take (i := 8) (v := .int .i64 wd) rfl (by kernel_rfl) (by kernel_rfl) (by kernel_rfl) (fun _ _ _ h => h) (.inl ⟨rfl, fun w' hS => by obtain ⟨s1, s2, s3, s4⟩ := hS; go_simp⟩) hS0 ?_
            refine wpAnyH_take (i := 9) (v := .bool false) rfl (by kernel_rfl) (by kernel_rfl) (by kernel_rfl) (fun _ _ _ h => h) (.inl ⟨rfl, fun w' hS => by obtain ⟨s1, s2, s3, s4⟩ := hS; go_simp⟩) hS0 ?_
            refine wpAnyH_take (i := 10) (v := .bool false) rfl (by kernel_rfl) (by kernel_rfl) (by kernel_rfl) (fun _ _ _ h => h) (.inl ⟨rfl, fun w' hS => by obtain ⟨s1, s2, s3, s4⟩ := hS; go_simp⟩) hS0 ?_
            refine wpAnyH_take (i := 11) (v := .int .i64 ((k + 1 : Nat) : Int)) rfl (by kernel_rfl) (by kernel_rfl) (by kernel_rfl) (fun _ _ _ h => h) (.inl ⟨by go_simp, fun w' hS => by obtain ⟨s1, s2, s3, s4⟩ := hS; go_simp⟩) hS0 ?_
            refine wpAnyH_take (i := 12) (v := .bool true) rfl (by kernel_rfl) (by kernel_rfl) (by kernel_rfl) (fun _ _ _ h => h) (.inl ⟨by go_simp, fun w' hS => by obtain ⟨s1, s2, s3, s4⟩ := hS; go_simp⟩) hS0 ?_
            refine wpAnyH_take (i := 13) (v := .bool true) rfl (by kernel_rfl) (by kernel_rfl) (by kernel_rfl) (fun _ _ _ h => h) (.inl ⟨by go_simp, fun w' hS => by obtain ⟨s1, s2, s3, s4⟩ := hS; go_simp⟩) hS0 ?_
            refine wpAnyH_take (i := 14) (v := .pointer (some ⟨w5.heap.size, 4, none⟩)) rfl (by kernel_rfl) (by kernel_rfl) (by kernel_rfl) (fun _ _ _ h => h) (.inl ⟨by go_simp, fun w' hS => by obtain ⟨s1, s2, s3, s4⟩ := hS; go_simp⟩) hS0 ?_
            refine wpAnyH_take (i := 15) (v := .slice (some ⟨b1, o1, none⟩) pn.length cn) rfl (by kernel_rfl) (by kernel_rfl) (by kernel_rfl) (fun _ _ _ h => h) (.inl ⟨by go_simp, fun w' hS => by obtain ⟨s1, s2, s3, s4⟩ := hS; go_simp⟩) hS0 ?_
            refine wpAnyH_take (i := 16) (v := .int .i64 ((k + 1 : Nat) : Int)) rfl (by kernel_rfl) (by kernel_rfl) (by kernel_rfl) (fun _ _ _ h => h) (.inl ⟨by go_simp, fun w' hS => by obtain ⟨s1, s2, s3, s4⟩ := hS; go_simp⟩) hS0 ?_
            refine wpAnyH_take (i := 17) (v := .int .i64 (k : Nat)) rfl (by kernel_rfl) (by kernel_rfl) (by kernel_rfl) (fun _ _ _ h => h) (.inl ⟨by go_simp, fun w' hS => by obtain ⟨s1, s2, s3, s4⟩ := hS; go_simp⟩) hS0 ?_
            refine wpAnyH_take (i := 18) (v := .pointer (some ⟨b1, o1 + k, none⟩)) rfl (by kernel_rfl) (by kernel_rfl) (by kernel_rfl) (fun _ _ _ h => h) (.inl ⟨by go_simp, fun w' hS => by obtain ⟨s1, s2, s3, s4⟩ := hS; go_simp⟩) hS0 ?_
            refine wpAnyH_take (i := 19) (v := .string p) rfl (by kernel_rfl) (by kernel_rfl) (by kernel_rfl) (fun _ _ _ h => h) (.inl ⟨by go_simp, fun w' hS => by obtain ⟨s1, s2, s3, s4⟩ := hS; go_simp⟩) hS0 ?_
            refine wpAnyH_take (i := 20) (v := .pointer (some ⟨w5.heap.size, 4, none⟩)) rfl (by kernel_rfl) (by kernel_rfl) (by kernel_rfl) (fun _ _ _ h => h) (.inl ⟨by go_simp, fun w' hS => by obtain ⟨s1, s2, s3, s4⟩ := hS; go_simp⟩) hS0 ?_
            refine wpAnyH_take (i := 21) (v := .slice (some ⟨b1, o1, none⟩) pn.length cn) rfl (by kernel_rfl) (by kernel_rfl) (by kernel_rfl) (fun _ _ _ h => h) (.inl ⟨by go_simp, fun w' hS => by obtain ⟨s1, s2, s3, s4⟩ := hS; go_simp⟩) hS0 ?_
            refine wpAnyH_take (i := 22) (v := .int .i64 ((k + 1 : Nat) : Int)) rfl (by kernel_rfl) (by kernel_rfl) (by kernel_rfl) (fun _ _ _ h => h) (.inl ⟨by go_simp, fun w' hS => by obtain ⟨s1, s2, s3, s4⟩ := hS; go_simp⟩) hS0 ?_
            refine wpAnyH_take (i := 23) (v := .pointer (some ⟨b1, o1 + (k + 1), none⟩)) rfl (by kernel_rfl) (by kernel_rfl) (by kernel_rfl) (fun _ _ _ h => h) (.inl ⟨by go_simp, fun w' hS => by obtain ⟨s1, s2, s3, s4⟩ := hS; go_simp⟩) hS0 ?_
            refine wpAnyH_take (i := 24) (v := .string t) rfl (by kernel_rfl) (by kernel_rfl) (by kernel_rfl) (fun _ _ _ h => h) (.inl ⟨by go_simp, fun w' hS => by obtain ⟨s1, s2, s3, s4⟩ := hS; go_simp⟩) hS0 ?_
            refine wpAnyH_take (i := 25) (v := .bool true) rfl (by kernel_rfl) (by kernel_rfl) (by kernel_rfl) (fun _ _ _ h => h) (.inl ⟨by go_simp, fun w' hS => by obtain ⟨s1, s2, s3, s4⟩ := hS; go_simp⟩) hS0 ?_
            refine wpAnyH_take (i := 26) (v := .bool true) rfl (by kernel_rfl) (by kernel_rfl) (by kernel_rfl) (fun _ _ _ h => h) (.inl ⟨by go_simp, fun w' hS => by obtain ⟨s1, s2, s3, s4⟩ := hS; go_simp⟩) hS0 ?_
            refine wpAnyH_take (i := 27) (v := .bool true) rfl (by kernel_rfl) (by kernel_rfl) (by kernel_rfl) (fun _ _ _ h => h) (.inl ⟨rfl, fun w' hS => by obtain ⟨s1, s2, s3, s4⟩ := hS; go_simp⟩) hS0 ?_
            refine wpAnyH_done (by kernel_rfl) ?_ _
            clear hS0
            go_simp
            go_wp2
            go_ret
            exact VRes.no HNO.out (HBI.out.trans (below_drewN (Below.refl _ _) 1))
end Go.Proofs.YtlnkhbnbcmllaaaGreat
