/- spec.Build puts pieces together. -/
import Derived.Test.YtohnffbcgancfaaBuildImpl
import Derived.Test.YtohnffbcgancfaaDescSpec
import Derived.Lib.AppendStr
namespace Go.Proofs.Ytohnffbcgancfaa
open Go.RowKit
theorem Try.byteInfo : (Try.prog.info? 5).map (fun i => (i.zero, i.size, i.bytes)) = some (some (.int .u8 0), 1, 1) := by kernel_rfl
theorem nums_text (l : List UInt8) : strOfNums (l.map fun b => (b.toNat : Int)) = ⟨l.toArray⟩ := by
  unfold strOfNums
  rw [List.map_map]
  have : ((fun n : Int => UInt8.ofNat n.toNat) ∘ fun b : UInt8 => (b.toNat : Int)) = id := by funext b; simp
  rw [this, List.map_id]
theorem conv_cells {w : World} {base k : Nat} {v : Value} {l : List UInt8} (h : w.ownsRow base 5 1 v k (Lib.byteCells l)) :
    (convert 31 9 v).run Try.prog w = .ok (.string ⟨l.toArray⟩) w := by
  have e : Lib.byteCells l = (l.map fun b => (b.toNat : Int)).map (Value.int .u8) := by simp [Lib.byteCells]
  rw [e] at h
  rw [← nums_text]
  generalize (l.map fun b => (b.toNat : Int)) = ys at *
  have hl : ys.length = k := by have := h.1; simpa using this
  rcases h with ⟨h1, ⟨rfl, rfl⟩ | ⟨g, cap, cur, rfl, hb, hg, hn, hm, hs, hx⟩⟩
  · have : ys = [] := List.eq_nil_of_length_eq_zero hl
    subst this
    exact run_convert_bytes_nil w 31 5 Try.underlying31 Try.underlying5 0 0 9 Try.underlying9
  · have hr : w.ownsRow base 5 1 (.slice (some ⟨g, 0, none⟩) k cap) k (ys.map (Value.int .u8)) := ⟨h1, .inr ⟨g, cap, cur, rfl, hb, hg, hn, hm, hs, hx⟩⟩
    refine run_convert_bytes_arg w 31 5 Try.underlying31 Try.underlying5 g 0 k cap ys hl (fun i hi => ?_) 9 Try.underlying9
    rw [Nat.zero_add, hr.cellAt i (by omega)]
    have : i < ys.length := by omega
    simp [this]
theorem row_form5 {w : World} {base n : Nat} {e : TypeId} {v : Value} {xs : List Value} (h : w.ownsRow base e 1 v n xs) : ∃ a cap, v = .slice a n cap := by
  rcases h with ⟨_, ⟨rfl, rfl⟩ | ⟨g, cap, cur, rfl, hb, _⟩⟩
  · exact ⟨none, 0, rfl⟩
  · exact ⟨_, cap, rfl⟩
set_option maxRecDepth 100000 in
set_option maxHeartbeats 4000000 in
theorem specBuild_any (n : Int) (vs vp : Value) (ss ps : List ByteArray) (m : Int) (w : World) (hs : Reads w vs ss) (hp : Reads w vp ps) (hl : ss.length ≤ maxLen) (hl' : ps.length ≤ maxLen) (hsz : ∀ i, (ss.getD i ByteArray.empty).size ≤ maxLen) (hsz' : ∀ i, (ps.getD i ByteArray.empty).size ≤ 1048576) :
    Calls Try.prog 33 #[.agg #[.int .i64 n, vs], vp, .int .i64 m] w fun e w' => e = .returned (buildR n ss ps m) ∧ Below w.heap.size w w' := by
  obtain ⟨i0, hi, hz0, hz1, hz2⟩ := info_parts Try.byteInfo
  have hl1 : ss.length ≤ 9223372036854775807 := hl
  have hl2 : ps.length ≤ 9223372036854775807 := hl'
  have hnew : LBox (w.alloc (.cells #[.int .i64 n, vs] 42)) w.heap.size n vs := World.alloc_heap_new w _
  have hb0 := (Below.refl w.heap.size w).alloc (Nat.le_refl _) (.cells #[.int .i64 n, vs] 42)
  have HOK := hid (l3Ok_any n vs ss m _ (hs.below hb0) hl hsz)
  have hs0 := hs.below hb0
  have hp0 := hp.below hb0
  obtain ⟨a, ca, rfl, _⟩ := hs.form
  obtain ⟨b, cb, rfl, _⟩ := hp.form
  have HS0 := hid hs0
  have HP0 := hid hp0
  have HNEW := hid hnew
  have HB0 := hid hb0
  clear hs hp hs0 hp0 hnew hb0
  cases hok : okL n ss m with
  | false =>
    have e : buildR n ss ps m = .tuple #[.string ⟨#[]⟩, .bool false] := by simp [buildR, buildOk, hok]
    rw [e]; clear e
    rw [hok] at HOK
    go_enter Try.func33, Try.ntmps33
    go_wp2_with (go_at_call 51; refine HOK.out.mono ?_; rintro e w1 ⟨rfl, hb1⟩)
    go_ret2
    exact ⟨rfl, HB0.out.trans (hb1.mono (by simp))⟩
  | true =>
    obtain ⟨h0, h3⟩ := okL_size hok
    have hwm : isW m = true := by
      unfold okL at hok
      simp only [Bool.and_eq_true] at hok
      exact hok.1
    rw [hok] at HOK
    by_cases hlen : ps.length = ss.length
    · obtain ⟨r, hr⟩ : ∃ r, r = buildR n ss ps m := ⟨_, rfl⟩
      rw [← hr]
      have HRR := hid hr
      have HLEN := hid hlen
      have HFAIL : Hid (∀ k, k < ps.length → (sumT m (ps.getD k ByteArray.empty) ≠ ss.getD k ByteArray.empty ∨ 3000 < total (ps.take (k + 1))) → r = .tuple #[.string ⟨#[]⟩, .bool false]) := fun k hk h => by
        rw [hr]
        unfold buildR
        rw [if_neg]
        unfold buildOk
        simp only [Bool.and_eq_true, decide_eq_true_eq]
        rintro ⟨_, h1, h2, _⟩
        rcases h with h | h
        · exact map_ne_at k hk h h2
        · have := total_le ps (k + 1); omega
      have HEND : Hid (ps.map (sumT m) = ss → r = if (total ps : Int) = n ∧ descS (catB ps) m = ss then .tuple #[.string (catB ps), .bool true] else .tuple #[.string ⟨#[]⟩, .bool false]) := fun h => by
        rw [hr]
        unfold buildR buildOk
        simp [hok, h]
      clear hr
      go_enter Try.func33, Try.ntmps33
      go_wp2_with fail
      refine HOK.out.mono ?_
      rintro e w1 ⟨rfl, hb1⟩
      have x1 := HNEW.out.below hb1
      have hc0 := x1.c0
      have hc1 := x1.c1
      have HS1 := hid (HS0.out.below hb1)
      have HP1 := hid (HP0.out.below hb1)
      have HB1 := hid (HB0.out.trans (hb1.mono (by simp)))
      have HX1 := hid x1
      have hlen' : ((ps.length : Int) == (ss.length : Int)) = true := by simp; omega
      clear hb1 x1 HS0 HP0 HB0 HNEW HOK hok hlen
      go_wp2
      rw [show ((ps.length : Int) != (ss.length : Int)) = false by rw [bne, hlen']; rfl]
      go_loopw [8, 9] (fun v i wr => ∃ (k : Nat) (ao : Option Addr) (cp : Nat), k ≤ ps.length ∧ i = .int .i64 k ∧ v = .slice ao (total (ps.take k)) cp ∧ wr.ownsRow w1.heap.size 5 1 v (total (ps.take k)) (Lib.byteCells (catL (ps.take k))) ∧ (∀ j, j < k → sumT m (ps.getD j ByteArray.empty) = ss.getD j ByteArray.empty) ∧ total (ps.take k) ≤ 3000 ∧ Below w1.heap.size w1 wr) (fun _ i _ => ps.length - (intOf i).toNat)
      case atStart => exact ⟨0, _, _, Nat.zero_le _, rfl, rfl, World.ownsRow_made w1 #[] 0 (Nat.le_refl _) (by simp [maxLen]) rfl, fun j hj => absurd hj (by omega), by simp [total], (Below.refl _ _).alloc (Nat.le_refl _) _⟩
      case round =>
        clear hlen'
        obtain ⟨k, ao, cp, hk, rfl, rfl, hrow, hall, htot, hbl⟩ := hrel
        have xr := HX1.out.below hbl
        have hr0 := xr.c0
        have hr1 := xr.c1
        by_cases hlt : k < ps.length
        · obtain ⟨_, _, e1, hcp⟩ := (HP1.out.below hbl).form
          simp only [Value.slice.injEq] at e1
          obtain ⟨rfl, _, rfl⟩ := e1
          obtain ⟨_, _, e2, hcs⟩ := (HS1.out.below hbl).form
          simp only [Value.slice.injEq] at e2
          obtain ⟨rfl, _, rfl⟩ := e2
          obtain ⟨b1, o1, rfl, hb1, hd1⟩ := hcp k hlt
          obtain ⟨b2, o2, rfl, hb2, hd2⟩ := hcs k (by rw [← HLEN.out]; exact hlt)
          have hT := total_take ps k hlt
          have hC := cells_take ps k hlt
          have HF1 := hid (HFAIL.out k hlt)
          rw [hT] at HF1
          have HA : Hid (sumT m (ps.getD k ByteArray.empty) = ss.getD k ByteArray.empty → ∀ j, j < k + 1 → sumT m (ps.getD j ByteArray.empty) = ss.getD j ByteArray.empty) := fun h j hj => by
            rcases Nat.lt_succ_iff_lt_or_eq.1 hj with h' | rfl
            · exact hall j h'
            · exact h
          have hzk : (ps.getD k ByteArray.empty).size ≤ 1048576 := hsz' k
          have HSk := hid fun W => specSum_any (ps.getD k ByteArray.empty) m W (by unfold maxLen; omega)
          change Hid (∀ W, Calls Try.prog 11 #[.string (ps.getD k ByteArray.empty), .int .i64 m] W fun e w' => e = .returned (.string (sumT m (ps.getD k ByteArray.empty))) ∧ Below W.heap.size W w') at HSk
          have HT : Hid (total (ps.take (k + 1)) = total (ps.take k) + (ps.getD k ByteArray.empty).size) := hT
          have HC := hid hC
          have HBL := hid hbl
          have HROW := hid hrow
          have HXR := hid xr
          have hlb0 : w.heap.size < wr.heap.size := xr.lt
          clear hall hcp hcs hT hC hbl hrow xr hc0 hc1 HFAIL
          generalize ps.getD k ByteArray.empty = p at *
          generalize ss.getD k ByteArray.empty = q at *
          generalize total (ps.take k) = t at *
          generalize Lib.byteCells (catL (ps.take k)) = bc at *
          go_wp2_with fail
          refine wp_region_held (S := fun w' => w'.cell? ⟨b1, o1 + k, none⟩ = some (.string p) ∧ w'.cell? ⟨w.heap.size, 1, none⟩ = some (.slice (some ⟨b2, o2, none⟩) ss.length ca) ∧ w'.cell? ⟨b2, o2 + k, none⟩ = some (.string q)) (by kernel_rfl) ?_
          change wpAnyH _ _ _ _ _ _ _ _ (World.drew _)
          have hS0 : wr.drew.cell? ⟨b1, o1 + k, none⟩ = some (.string p) ∧ wr.drew.cell? ⟨w.heap.size, 1, none⟩ = some (.slice (some ⟨b2, o2, none⟩) ss.length ca) ∧ wr.drew.cell? ⟨b2, o2 + k, none⟩ = some (.string q) := ⟨hd1, hr1, hd2⟩
          have hk0 : (0 : Int) ≤ (k : Int) := by omega
          have hk1 : (k : Int) < (ps.length : Int) := by omega
          have hk2 : (k : Int) < (ss.length : Int) := by have := HLEN.out; omega
          refine wpAnyH_take (i := 0) (v := .slice (some ⟨b1, o1, none⟩) ps.length cb) rfl (by kernel_rfl) (by kernel_rfl) (by kernel_rfl) (fun _ _ _ h => h) (.inl ⟨rfl, fun w' hS => by obtain ⟨s1, s2, s3⟩ := hS; go_simp⟩) hS0 ?_
          refine wpAnyH_take (i := 1) (v := .int .i64 k) rfl (by kernel_rfl) (by kernel_rfl) (by kernel_rfl) (fun _ _ _ h => h) (.inl ⟨rfl, fun w' hS => by obtain ⟨s1, s2, s3⟩ := hS; go_simp⟩) hS0 ?_
          refine wpAnyH_take (i := 2) (v := .pointer (some ⟨b1, o1 + k, none⟩)) rfl (by kernel_rfl) (by kernel_rfl) (by kernel_rfl) (fun _ _ _ h => h) (.inl ⟨rfl, fun w' hS => by obtain ⟨s1, s2, s3⟩ := hS; go_simp⟩) hS0 ?_
          refine wpAnyH_take (i := 3) (v := .string p) rfl (by kernel_rfl) (by kernel_rfl) (by kernel_rfl) (fun _ _ _ h => h) (.inl ⟨rfl, fun w' hS => by obtain ⟨s1, s2, s3⟩ := hS; go_simp⟩) hS0 ?_
          refine wpAnyH_take (i := 4) (v := .int .i64 m) rfl (by kernel_rfl) (by kernel_rfl) (by kernel_rfl) (fun _ _ _ h => h) (.inl ⟨rfl, fun w' hS => by obtain ⟨s1, s2, s3⟩ := hS; go_simp⟩) hS0 ?_
          refine wpAnyH_take (i := 6) (v := .pointer (some ⟨w.heap.size, 1, none⟩)) rfl (by kernel_rfl) (by kernel_rfl) (by kernel_rfl) (fun _ _ _ h => h) (.inl ⟨rfl, fun w' hS => by obtain ⟨s1, s2, s3⟩ := hS; go_simp⟩) hS0 ?_
          refine wpAnyH_take (i := 7) (v := .slice (some ⟨b2, o2, none⟩) ss.length ca) rfl (by kernel_rfl) (by kernel_rfl) (by kernel_rfl) (fun _ _ _ h => h) (.inl ⟨rfl, fun w' hS => by obtain ⟨s1, s2, s3⟩ := hS; go_simp⟩) hS0 ?_
          refine wpAnyH_take (i := 8) (v := .int .i64 k) rfl (by kernel_rfl) (by kernel_rfl) (by kernel_rfl) (fun _ _ _ h => h) (.inl ⟨rfl, fun w' hS => by obtain ⟨s1, s2, s3⟩ := hS; go_simp⟩) hS0 ?_
          refine wpAnyH_take (i := 9) (v := .pointer (some ⟨b2, o2 + k, none⟩)) rfl (by kernel_rfl) (by kernel_rfl) (by kernel_rfl) (fun _ _ _ h => h) (.inl ⟨rfl, fun w' hS => by obtain ⟨s1, s2, s3⟩ := hS; go_simp⟩) hS0 ?_
          refine wpAnyH_take (i := 10) (v := .string q) rfl (by kernel_rfl) (by kernel_rfl) (by kernel_rfl) (fun _ _ _ h => h) (.inl ⟨rfl, fun w' hS => by obtain ⟨s1, s2, s3⟩ := hS; go_simp⟩) hS0 ?_
          have hec := enters_of Try.func11 (by kernel_rfl) rfl
          refine held_one 5 (by kernel_rfl) (op_calls (f := 11) (args := #[.string p, .int .i64 m]) rfl rfl (by go_simp) (HSk.out _) ?_)
          rintro e w3 ⟨rfl, hb3⟩
          have hb3' : Below wr.heap.size wr w3 := ⟨hb3.os, hb3.tape, hb3.output, hb3.size, hb3.block⟩
          have hd13 := (hb3'.cell (p := ⟨b1, o1 + k, none⟩) hb1).trans hd1
          have hd23 := (hb3'.cell (p := ⟨b2, o2 + k, none⟩) hb2).trans hd2
          have x3 := HXR.out.below hb3'
          have hr13 := x3.c1
          have hS3 : w3.cell? ⟨b1, o1 + k, none⟩ = some (.string p) ∧ w3.cell? ⟨w.heap.size, 1, none⟩ = some (.slice (some ⟨b2, o2, none⟩) ss.length ca) ∧ w3.cell? ⟨b2, o2 + k, none⟩ = some (.string q) := ⟨hd13, hr13, hd23⟩
          have hrow3 := Below.row hb3' HROW.out
          have HB3 := hid (HBL.out.trans (hb3'.mono HBL.out.size))
          clear hb3 hb3' x3 hd1 hd2 hr1 hS0
          refine ⟨_, rfl, hS3, ?_⟩
          cases hx : ((sumT m p).toList == q.toList) with
          | false =>
            have HE : Hid (sumT m p ≠ q) := by
              show sumT m p ≠ q
              rw [beq_text] at hx; exact of_decide_eq_false hx
            refine wpAnyH_take (i := 11) (v := .bool true) rfl (by kernel_rfl) (by kernel_rfl) (by kernel_rfl) (fun _ _ _ h => h) (.inl ⟨by go_simp, fun w' hS => by obtain ⟨s1, s2, s3⟩ := hS; go_simp⟩) hS3 ?_
            refine wpAnyH_take (i := 12) (v := .bool true) rfl (by kernel_rfl) (by kernel_rfl) (by kernel_rfl) (fun _ _ _ h => h) (.inl ⟨by go_simp, fun w' hS => by obtain ⟨s1, s2, s3⟩ := hS; go_simp⟩) hS3 ?_
            refine wpAnyH_take (i := 13) (v := undef) rfl (by kernel_rfl) (by kernel_rfl) (by kernel_rfl) (fun _ _ _ h => h) (.inr ⟨by go_simp, rfl⟩) hS3 ?_
            refine wpAnyH_take (i := 14) (v := undef) rfl (by kernel_rfl) (by kernel_rfl) (by kernel_rfl) (fun _ _ _ h => h) (.inr ⟨by go_simp, rfl⟩) hS3 ?_
            refine wpAnyH_take (i := 15) (v := undef) rfl (by kernel_rfl) (by kernel_rfl) (by kernel_rfl) (fun _ _ _ h => h) (.inr ⟨by go_simp, rfl⟩) hS3 ?_
            refine wpAnyH_take (i := 16) (v := undef) rfl (by kernel_rfl) (by kernel_rfl) (by kernel_rfl) (fun _ _ _ h => h) (.inr ⟨by go_simp, rfl⟩) hS3 ?_
            refine wpAnyH_take (i := 17) (v := undef) rfl (by kernel_rfl) (by kernel_rfl) (by kernel_rfl) (fun _ _ _ h => h) (.inr ⟨by go_simp, rfl⟩) hS3 ?_
            refine wpAnyH_take (i := 18) (v := undef) rfl (by kernel_rfl) (by kernel_rfl) (by kernel_rfl) (fun _ _ _ h => h) (.inr ⟨by go_simp, rfl⟩) hS3 ?_
            refine wpAnyH_take (i := 19) (v := undef) rfl (by kernel_rfl) (by kernel_rfl) (by kernel_rfl) (fun _ _ _ h => h) (.inr ⟨by go_simp, rfl⟩) hS3 ?_
            refine wpAnyH_take (i := 20) (v := undef) rfl (by kernel_rfl) (by kernel_rfl) (by kernel_rfl) (fun _ _ _ h => h) (.inr ⟨by go_simp, rfl⟩) hS3 ?_
            refine wpAnyH_take (i := 21) (v := undef) rfl (by kernel_rfl) (by kernel_rfl) (by kernel_rfl) (fun _ _ _ h => h) (.inr ⟨by go_simp, rfl⟩) hS3 ?_
            refine wpAnyH_take (i := 22) (v := .bool true) rfl (by kernel_rfl) (by kernel_rfl) (by kernel_rfl) (fun _ _ _ h => h) (.inl ⟨by go_simp, fun w' hS => by obtain ⟨s1, s2, s3⟩ := hS; go_simp⟩) hS3 ?_
            refine wpAnyH_done (by kernel_rfl) ?_ _
            clear hx hS3
            go_simp
            go_wp2
            go_ret2
            exact ⟨by rw [HF1.out (.inl HE.out)]; rfl, HB1.out.trans (HB3.out.mono HB1.out.size)⟩
          | true =>
            have HE : Hid (sumT m p = q) := by
              show sumT m p = q
              rw [beq_text] at hx; exact of_decide_eq_true hx
            have ht3 : t ≤ 3000 := htot
            refine wpAnyH_take (i := 11) (v := .bool false) rfl (by kernel_rfl) (by kernel_rfl) (by kernel_rfl) (fun _ _ _ h => h) (.inl ⟨by go_simp, fun w' hS => by obtain ⟨s1, s2, s3⟩ := hS; go_simp⟩) hS3 ?_
            refine wpAnyH_take (i := 12) (v := .bool false) rfl (by kernel_rfl) (by kernel_rfl) (by kernel_rfl) (fun _ _ _ h => h) (.inl ⟨by go_simp, fun w' hS => by obtain ⟨s1, s2, s3⟩ := hS; go_simp⟩) hS3 ?_
            refine wpAnyH_take (i := 13) (v := .slice ao t cp) rfl (by kernel_rfl) (by kernel_rfl) (by kernel_rfl) (fun _ _ _ h => h) (.inl ⟨by go_simp, fun w' hS => by obtain ⟨s1, s2, s3⟩ := hS; go_simp⟩) hS3 ?_
            refine wpAnyH_take (i := 14) (v := .int .i64 t) rfl (by kernel_rfl) (by kernel_rfl) (by kernel_rfl) (fun _ _ _ h => h) (.inl ⟨by go_simp, fun w' hS => by obtain ⟨s1, s2, s3⟩ := hS; go_simp⟩) hS3 ?_
            refine wpAnyH_take (i := 15) (v := .slice (some ⟨b1, o1, none⟩) ps.length cb) rfl (by kernel_rfl) (by kernel_rfl) (by kernel_rfl) (fun _ _ _ h => h) (.inl ⟨by go_simp, fun w' hS => by obtain ⟨s1, s2, s3⟩ := hS; go_simp⟩) hS3 ?_
            refine wpAnyH_take (i := 16) (v := .int .i64 k) rfl (by kernel_rfl) (by kernel_rfl) (by kernel_rfl) (fun _ _ _ h => h) (.inl ⟨by go_simp, fun w' hS => by obtain ⟨s1, s2, s3⟩ := hS; go_simp⟩) hS3 ?_
            refine wpAnyH_take (i := 17) (v := .pointer (some ⟨b1, o1 + k, none⟩)) rfl (by kernel_rfl) (by kernel_rfl) (by kernel_rfl) (fun _ _ _ h => h) (.inl ⟨by go_simp, fun w' hS => by obtain ⟨s1, s2, s3⟩ := hS; go_simp⟩) hS3 ?_
            refine wpAnyH_take (i := 18) (v := .string p) rfl (by kernel_rfl) (by kernel_rfl) (by kernel_rfl) (fun _ _ _ h => h) (.inl ⟨by go_simp, fun w' hS => by obtain ⟨s1, s2, s3⟩ := hS; go_simp⟩) hS3 ?_
            refine wpAnyH_take (i := 19) (v := .int .i64 p.size) rfl (by kernel_rfl) (by kernel_rfl) (by kernel_rfl) (fun _ _ _ h => h) (.inl ⟨by go_simp, fun w' hS => by obtain ⟨s1, s2, s3⟩ := hS; go_simp⟩) hS3 ?_
            refine wpAnyH_take (i := 20) (v := .int .i64 (t + p.size)) rfl (by kernel_rfl) (by kernel_rfl) (by kernel_rfl) (fun _ _ _ h => h) (.inl ⟨by go_simp, fun w' hS => by obtain ⟨s1, s2, s3⟩ := hS; go_simp; rw [IntKind.wrap_i64]; omega⟩) hS3 ?_
            refine wpAnyH_take (i := 21) (v := .bool (decide (3000 < (t : Int) + p.size))) rfl (by kernel_rfl) (by kernel_rfl) (by kernel_rfl) (fun _ _ _ h => h) (.inl ⟨by go_simp, fun w' hS => by obtain ⟨s1, s2, s3⟩ := hS; go_simp⟩) hS3 ?_
            refine wpAnyH_take (i := 22) (v := .bool (decide (3000 < (t : Int) + p.size))) rfl (by kernel_rfl) (by kernel_rfl) (by kernel_rfl) (fun _ _ _ h => h) (.inl ⟨by go_simp, fun w' hS => by obtain ⟨s1, s2, s3⟩ := hS; go_simp⟩) hS3 ?_
            refine wpAnyH_done (by kernel_rfl) ?_ _
            clear hx hS3
            by_cases h3k : 3000 < (t : Int) + p.size
            · rw [decide_eq_true h3k]
              have HF := hid (HF1.out (.inr (by omega)))
              clear h3k
              go_simp
              go_wp2
              go_ret2
              exact ⟨by rw [HF.out]; rfl, HB1.out.trans (HB3.out.mono HB1.out.size)⟩
            · rw [decide_eq_false h3k]
              have h3k' : t + p.size ≤ 3000 := by omega
              clear h3k
              have hw13 := HB3.out.size
              have HROW3 := hid hrow3
              go_simp
              go_wp2_with (at_builtin; refine Lib.wpList_append_own_string _ rfl _ _ 31 9 rfl w1.heap.size 5 i0 Try.underlying31 Try.underlying9 hi hz0 hz1 hz2 _ t bc rfl hrow3 p rfl (by unfold maxLen; omega) (by omega) hw13 ?_; intro v' w4 hown4 hgrow4 _)
              obtain ⟨ao', cp', rfl⟩ := row_form5 hown4
              have HB4 := hid (HB3.out.grown hgrow4 hw13 (fun g e => (HROW3.out.lt g e).1))
              have HOWN4 := hid hown4
              clear hown4 hgrow4
              go_wp2
              go_roundw
              case rel => exact ⟨k + 1, ao', cp', by omega, by go_num, by rw [HT.out], by rw [HT.out, HC.out]; exact HOWN4.out, HA.out HE.out, by rw [HT.out]; exact h3k', HB4.out⟩
              case measure => simp [intOf]; omega
        · obtain rfl : k = ps.length := by omega
          rw [List.take_length] at *
          have HEQ := hid (HEND.out (map_eq_iff HLEN.out hall))
          have hcv := conv_cells hrow
          change (convert 31 9 (.slice ao (total ps) cp)).run Try.prog wr = .ok (.string (catB ps)) wr at hcv
          have hS0 : wr.drew.cell? ⟨w.heap.size, 0, none⟩ = some (.int .i64 n) ∧ wr.drew.cell? ⟨w.heap.size, 1, none⟩ = some (.slice a ss.length ca) ∧ (convert 31 9 (.slice ao (total ps) cp)).run Try.prog wr.drew = .ok (.string (catB ps)) wr.drew := ⟨hr0, hr1, conv_cells (w := wr.drew) hrow⟩
          have HCV : Hid (∀ W : World, W.ownsRow w1.heap.size 5 1 (.slice ao (total ps) cp) (total ps) (Lib.byteCells (catL ps)) → (convert 31 9 (.slice ao (total ps) cp)).run Try.prog W = .ok (.string (catB ps)) W) := fun W h => conv_cells h
          have HDS := hid fun W => specDescribe_any (catB ps) m W (by rw [catB_size]; unfold maxLen; omega)
          have hdl := descS_len (catB ps) m
          have hdn : (total ps : Int) = n → descN (catB ps) m = n := fun h => by
            unfold descN hasL
            rw [hwm, catB_size]
            have : total ps ≤ 3000 := htot
            simp [this, h]
          have HROW := hid hrow
          have HBL := hid hbl
          have HXR := hid xr
          have HSS := hid (HS1.out.below hbl)
          have hcl : (catB ps).size ≤ maxLen := by rw [catB_size]; unfold maxLen; omega
          have HDN := hid hdn
          clear hall hrow hbl xr HFAIL HEND hc0 hc1 hdn hcl
          generalize descS (catB ps) m = ds at *
          generalize descN (catB ps) m = dn at *
          generalize catL ps = cl at *
          generalize catB ps = cb0 at *
          generalize total ps = t at *
          go_wp2_with fail
          refine wp_region_held (S := fun w' => w'.cell? ⟨w.heap.size, 0, none⟩ = some (.int .i64 n) ∧ w'.cell? ⟨w.heap.size, 1, none⟩ = some (.slice a ss.length ca) ∧ (convert 31 9 (.slice ao t cp)).run Try.prog w' = .ok (.string cb0) w') (by kernel_rfl) ?_
          change wpAnyH _ _ _ _ _ _ _ _ (World.drew _)
          refine wpAnyH_take (i := 0) (v := .slice ao t cp) rfl (by kernel_rfl) (by kernel_rfl) (by kernel_rfl) (fun _ _ _ h => h) (.inl ⟨by go_simp, fun w' hS => by obtain ⟨s1, s2, s3⟩ := hS; go_simp⟩) hS0 ?_
          refine wpAnyH_take (i := 1) (v := .int .i64 t) rfl (by kernel_rfl) (by kernel_rfl) (by kernel_rfl) (fun _ _ _ h => h) (.inl ⟨by go_simp, fun w' hS => by obtain ⟨s1, s2, s3⟩ := hS; go_simp⟩) hS0 ?_
          refine wpAnyH_take (i := 2) (v := .pointer (some ⟨w.heap.size, 0, none⟩)) rfl (by kernel_rfl) (by kernel_rfl) (by kernel_rfl) (fun _ _ _ h => h) (.inl ⟨by go_simp, fun w' hS => by obtain ⟨s1, s2, s3⟩ := hS; go_simp⟩) hS0 ?_
          refine wpAnyH_take (i := 3) (v := .int .i64 n) rfl (by kernel_rfl) (by kernel_rfl) (by kernel_rfl) (fun _ _ _ h => h) (.inl ⟨by go_simp, fun w' hS => by obtain ⟨s1, s2, s3⟩ := hS; go_simp⟩) hS0 ?_
          by_cases htn : (t : Int) = n
          · have htb : ((t : Int) == n) = true := by simpa using htn
            refine wpAnyH_take (i := 4) (v := .bool false) rfl (by kernel_rfl) (by kernel_rfl) (by kernel_rfl) (fun _ _ _ h => h) (.inl ⟨by go_simp, fun w' hS => by obtain ⟨s1, s2, s3⟩ := hS; go_simp⟩) hS0 ?_
            refine wpAnyH_take (i := 5) (v := .bool false) rfl (by kernel_rfl) (by kernel_rfl) (by kernel_rfl) (fun _ _ _ h => h) (.inl ⟨by go_simp, fun w' hS => by obtain ⟨s1, s2, s3⟩ := hS; go_simp⟩) hS0 ?_
            refine wpAnyH_take (i := 6) (v := .slice ao t cp) rfl (by kernel_rfl) (by kernel_rfl) (by kernel_rfl) (fun _ _ _ h => h) (.inl ⟨by go_simp, fun w' hS => by obtain ⟨s1, s2, s3⟩ := hS; go_simp⟩) hS0 ?_
            refine wpAnyH_take (i := 7) (v := .string cb0) rfl (by kernel_rfl) (by kernel_rfl) (by kernel_rfl) (fun _ _ _ h => h) (.inl ⟨by go_simp, fun w' hS => by obtain ⟨s1, s2, s3⟩ := hS; go_simp⟩) hS0 ?_
            refine wpAnyH_take (i := 8) (v := .int .i64 m) rfl (by kernel_rfl) (by kernel_rfl) (by kernel_rfl) (fun _ _ _ h => h) (.inl ⟨by go_simp, fun w' hS => by obtain ⟨s1, s2, s3⟩ := hS; go_simp⟩) hS0 ?_
            refine wpAnyH_take (i := 10) (v := .agg #[.int .i64 n, .slice a ss.length ca]) rfl (by kernel_rfl) (by kernel_rfl) (by kernel_rfl) (fun _ _ _ h => h) (.inl ⟨by go_simp, fun w' hS => by obtain ⟨s1, s2, s3⟩ := hS; go_simp⟩) hS0 ?_
            have hec := enters_of Try.func27 (by kernel_rfl) rfl
            have hee := enters_of Try.func52 (by kernel_rfl) rfl
            have hcall := hid (HDS.out wr.drew)
            refine held_one 9 (by kernel_rfl) ?_
            refine @op_wpW _ _ _ _ _ _ 9 ?oa ?hoa ?hwa ?hha
            case hoa => rfl
            case hwa => go_simp
            clear hS0 hcv
            unfold Oper.wp
            go_simp
            refine hcall.out.mono ?_
            rintro e w5 ⟨v5, rfl, hr5, hb5⟩
            have hb5' : Below wr.heap.size wr w5 := ⟨hb5.os, hb5.tape, hb5.output, hb5.size, hb5.block⟩
            have x5 := HXR.out.below hb5'
            have hrow5 := Below.row hb5' HROW.out
            have hS5 : w5.cell? ⟨w.heap.size, 0, none⟩ = some (.int .i64 n) ∧ w5.cell? ⟨w.heap.size, 1, none⟩ = some (.slice a ss.length ca) ∧ (convert 31 9 (.slice ao t cp)).run Try.prog w5 = .ok (.string cb0) w5 := ⟨x5.c0, x5.c1, HCV.out w5 hrow5⟩
            have HS5 := hid (HSS.out.below hb5')
            have HB5 := hid (HBL.out.trans (hb5'.mono HBL.out.size))
            have HR5 := hid (Reads.of_row hr5)
            obtain ⟨a5, c5, rfl, _⟩ := row_form hr5
            refine ⟨hS5, ?_⟩
            have hsame := hid (l3Same_any dn n _ _ ds ss w5 HR5.out HS5.out (by unfold maxLen; omega) hl)
            have HX5 := hid x5
            have HROW5 := hid hrow5
            clear hS5 hb5 hb5' x5 hrow5 hr5
            refine held_one 11 (by kernel_rfl) ?_
            refine @op_wpW _ _ _ _ _ _ 11 ?ob ?hob ?hwb ?hhb
            case hob => rfl
            case hwb => go_simp
            unfold Oper.wp
            go_simp
            refine hsame.out.mono ?_
            rintro e w6 ⟨rfl, hb6⟩
            have x6 := HX5.out.below hb6
            have hrow6 := Below.row hb6 HROW5.out
            have hS6 : w6.cell? ⟨w.heap.size, 0, none⟩ = some (.int .i64 n) ∧ w6.cell? ⟨w.heap.size, 1, none⟩ = some (.slice a ss.length ca) ∧ (convert 31 9 (.slice ao t cp)).run Try.prog w6 = .ok (.string cb0) w6 := ⟨x6.c0, x6.c1, HCV.out w6 hrow6⟩
            have HB6 := hid (HB1.out.trans ((HB5.out.trans (hb6.mono HB5.out.size)).mono HB1.out.size))
            have hcv6 := hS6.2.2
            have hdn := HDN.out htn
            refine ⟨hS6, ?_⟩
            by_cases hds : ds = ss
            · have HRX : Hid (r = .tuple #[.string cb0, .bool true]) := by
                show _ = _
                rw [HEQ.out, if_pos ⟨htn, hds⟩]
              refine held_one 12 (by kernel_rfl) ?_
              refine @op_wpW _ _ _ _ _ _ 12 ?oc ?hoc ?hwc ?hhc
              case hoc => rfl
              case hwc => go_simp
              have hS7 := hid hS6
              clear hS6
              unfold Oper.wp
              go_simp
              refine ⟨⟨hS7.out.1, hS7.out.2.1⟩, ?_⟩
              refine held_one 13 (by kernel_rfl) ?_
              refine @op_wpW _ _ _ _ _ _ 13 ?od ?hod ?hwd ?hhd
              case hod => rfl
              case hwd => go_simp
              unfold Oper.wp
              go_simp
              refine ⟨⟨hS7.out.1, hS7.out.2.1⟩, wpAnyH_done (by kernel_rfl) ?_ _⟩
              clear hds hb6 x6 hrow6 htn htb
              go_simp
              go_wp2
              go_ret2
              exact ⟨by rw [HRX.out]; rfl, HB6.out⟩
            · have HRX : Hid (r = .tuple #[.string ⟨#[]⟩, .bool false]) := by
                show _ = _
                rw [HEQ.out, if_neg (fun h => hds h.2)]
              refine held_one 12 (by kernel_rfl) ?_
              refine @op_wpW _ _ _ _ _ _ 12 ?oe ?hoe ?hwe ?hhe
              case hoe => rfl
              case hwe => go_simp
              have hS7 := hid hS6
              clear hS6
              unfold Oper.wp
              go_simp
              refine ⟨⟨hS7.out.1, hS7.out.2.1⟩, ?_⟩
              refine held_one 13 (by kernel_rfl) ?_
              refine @op_wpW _ _ _ _ _ _ 13 ?of ?hof ?hwf ?hhf
              case hof => rfl
              case hwf => go_simp
              unfold Oper.wp
              go_simp
              refine ⟨⟨hS7.out.1, hS7.out.2.1⟩, wpAnyH_done (by kernel_rfl) ?_ _⟩
              clear hds hb6 x6 hrow6 htn htb
              go_simp
              go_wp2
              go_ret2
              exact ⟨by rw [HRX.out]; rfl, HB6.out⟩
          · have htb : ((t : Int) == n) = false := by simpa using htn
            have HRX : Hid (r = .tuple #[.string ⟨#[]⟩, .bool false]) := by
              show _ = _
              rw [HEQ.out, if_neg (fun h => htn h.1)]
            refine wpAnyH_take (i := 4) (v := .bool true) rfl (by kernel_rfl) (by kernel_rfl) (by kernel_rfl) (fun _ _ _ h => h) (.inl ⟨by go_simp, fun w' hS => by obtain ⟨s1, s2, s3⟩ := hS; go_simp⟩) hS0 ?_
            refine wpAnyH_take (i := 5) (v := .bool true) rfl (by kernel_rfl) (by kernel_rfl) (by kernel_rfl) (fun _ _ _ h => h) (.inl ⟨by go_simp, fun w' hS => by obtain ⟨s1, s2, s3⟩ := hS; go_simp⟩) hS0 ?_
            refine wpAnyH_take (i := 6) (v := undef) rfl (by kernel_rfl) (by kernel_rfl) (by kernel_rfl) (fun _ _ _ h => h) (.inr ⟨by go_simp, rfl⟩) hS0 ?_
            refine wpAnyH_take (i := 7) (v := undef) rfl (by kernel_rfl) (by kernel_rfl) (by kernel_rfl) (fun _ _ _ h => h) (.inr ⟨by go_simp, rfl⟩) hS0 ?_
            refine wpAnyH_take (i := 8) (v := undef) rfl (by kernel_rfl) (by kernel_rfl) (by kernel_rfl) (fun _ _ _ h => h) (.inr ⟨by go_simp, rfl⟩) hS0 ?_
            refine wpAnyH_take (i := 9) (v := undef) rfl (by kernel_rfl) (by kernel_rfl) (by kernel_rfl) (fun _ _ _ h => h) (.inr ⟨by go_simp, rfl⟩) hS0 ?_
            refine wpAnyH_take (i := 10) (v := undef) rfl (by kernel_rfl) (by kernel_rfl) (by kernel_rfl) (fun _ _ _ h => h) (.inr ⟨by go_simp, rfl⟩) hS0 ?_
            refine wpAnyH_take (i := 11) (v := undef) rfl (by kernel_rfl) (by kernel_rfl) (by kernel_rfl) (fun _ _ _ h => h) (.inr ⟨by go_simp, rfl⟩) hS0 ?_
            refine wpAnyH_take (i := 12) (v := undef) rfl (by kernel_rfl) (by kernel_rfl) (by kernel_rfl) (fun _ _ _ h => h) (.inr ⟨by go_simp, rfl⟩) hS0 ?_
            refine wpAnyH_take (i := 13) (v := .bool true) rfl (by kernel_rfl) (by kernel_rfl) (by kernel_rfl) (fun _ _ _ h => h) (.inl ⟨by go_simp, fun w' hS => by obtain ⟨s1, s2, s3⟩ := hS; go_simp⟩) hS0 ?_
            refine wpAnyH_done (by kernel_rfl) ?_ _
            clear htn htb hS0 hcv
            go_simp
            go_wp2
            go_ret2
            exact ⟨by rw [HRX.out]; rfl, (HB1.out.trans (HBL.out.mono HB1.out.size)).drew⟩
    · have e : buildR n ss ps m = .tuple #[.string ⟨#[]⟩, .bool false] := by
        unfold buildR
        rw [if_neg]
        unfold buildOk
        simp only [Bool.and_eq_true, decide_eq_true_eq]
        rintro ⟨_, _, rfl, _⟩
        simp at hlen
      rw [e]; clear e
      go_enter Try.func33, Try.ntmps33
      go_wp2_with fail
      refine HOK.out.mono ?_
      rintro e w1 ⟨rfl, hb1⟩
      have x1 := HNEW.out.below hb1
      have hc0 := x1.c0
      have hc1 := x1.c1
      have HB1 := hid (HB0.out.trans (hb1.mono (by simp)))
      have hlen' : ((ps.length : Int) == (ss.length : Int)) = false := by simp; omega
      clear hb1 x1 HS0 HP0 HB0 HNEW HOK hok hlen
      go_wp2
      go_ret2
      exact ⟨rfl, HB1.out⟩
end Go.Proofs.Ytohnffbcgancfaa
