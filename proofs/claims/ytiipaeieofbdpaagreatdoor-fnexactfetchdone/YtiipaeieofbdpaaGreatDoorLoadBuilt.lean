import Derived.Test.YtiipaeieofbdpaaGreatDoorBuildImpl
import Derived.Test.YtiipaeieofbdpaaGreatDoorNamesLaw
import Derived.Lib.AppendStr
import Derived.Test.YtiipaeieofbdpaaGreatDoorListUnder
import Derived.BigQuiet
/- spec.Build puts pieces together. -/
namespace Go.Proofs.YtiipaeieofbdpaaGreatDoor
open Go.RowKit
theorem Tryz.byteInfo : (Tryz.prog.info? 5).map (fun i => (i.zero, i.size, i.bytes)) = some (some (.int .u8 0), 1, 1) := by kernel_rfl
theorem nums_text (l : List UInt8) : strOfNums (l.map fun b => (b.toNat : Int)) = ⟨l.toArray⟩ := by
  unfold strOfNums
  rw [List.map_map]
  have : ((fun n : Int => UInt8.ofNat n.toNat) ∘ fun b : UInt8 => (b.toNat : Int)) = id := by funext b; simp
  rw [this, List.map_id]
theorem conv_cells {w : World} {base k : Nat} {v : Value} {l : List UInt8} (h : w.ownsRow base 5 1 v k (Lib.byteCells l)) :
    (convert 129 9 v).run Tryz.prog w = .ok (.string ⟨l.toArray⟩) w := by
  have e : Lib.byteCells l = (l.map fun b => (b.toNat : Int)).map (Value.int .u8) := by simp [Lib.byteCells]
  rw [e] at h
  rw [← nums_text]
  generalize (l.map fun b => (b.toNat : Int)) = ys at *
  have hl : ys.length = k := by have := h.1; simpa using this
  rcases h with ⟨h1, ⟨rfl, rfl⟩ | ⟨g, cap, cur, rfl, hb, hg, hn, hm, hs, hx⟩⟩
  · have : ys = [] := List.eq_nil_of_length_eq_zero hl
    subst this
    exact run_convert_bytes_nil w 129 5 Tryz.underlying129 Tryz.underlying5 0 0 9 Tryz.underlying9
  · have hr : w.ownsRow base 5 1 (.slice (some ⟨g, 0, none⟩) k cap) k (ys.map (Value.int .u8)) := ⟨h1, .inr ⟨g, cap, cur, rfl, hb, hg, hn, hm, hs, hx⟩⟩
    refine run_convert_bytes_arg w 129 5 Tryz.underlying129 Tryz.underlying5 g 0 k cap ys hl (fun i hi => ?_) 9 Tryz.underlying9
    rw [Nat.zero_add, hr.cellAt i (by omega)]
    have : i < ys.length := by omega
    simp [this]
theorem row_form5 {w : World} {base n : Nat} {e : TypeId} {v : Value} {xs : List Value} (h : w.ownsRow base e 1 v n xs) : ∃ a cap, v = .slice a n cap := by
  rcases h with ⟨_, ⟨rfl, rfl⟩ | ⟨g, cap, cur, rfl, hb, _⟩⟩
  · exact ⟨none, 0, rfl⟩
  · exact ⟨_, cap, rfl⟩
set_option maxRecDepth 100000 in
set_option maxHeartbeats 4000000 in
theorem specBuild_any (n : Int) (vs vp : Value) (ss ps : List ByteArray) (m : Int) (w : World) (hs : Reads w vs ss) (hp : Reads w vp ps) (hl : ss.length ≤ maxLen) (hl' : ps.length ≤ maxLen) (hsz : ∀ i, (ss.getD i ByteArray.empty).size ≤ maxLen) (hsz' : ∀ i, (ps.getD i ByteArray.empty).size ≤ 1048576) :
    Calls Tryz.prog 57 #[.agg #[.int .i64 n, vs], vp, .int .i64 m] w fun e w' => e = .returned (buildR n ss ps m) ∧ Below w.heap.size w w' := by
  obtain ⟨i0, hi, hz0, hz1, hz2⟩ := info_parts Tryz.byteInfo
  have hl1 : ss.length ≤ 9223372036854775807 := hl
  have hl2 : ps.length ≤ 9223372036854775807 := hl'
  have hnew : LBox (w.alloc (.cells #[.int .i64 n, vs] 85)) w.heap.size n vs := World.alloc_heap_new w _
  have hb0 := (Below.refl w.heap.size w).alloc (Nat.le_refl _) (.cells #[.int .i64 n, vs] 85)
  have HOK := hid (l3Ok_any n vs ss m _ (hs.below hb0) hl hsz)
  have hs0 := hs.below hb0
  have hp0 := hp.below hb0
  obtain ⟨a, ca, rfl, _⟩ := hs.form
  obtain ⟨b, cb, rfl, _⟩ := hp.form
  have HS0 := hid hs0
  have HP0 := hid hp0
  have HNEW := hid hnew
  have HB0 := hid hb0
  clear hs hp hs0 hp0 hnew hb0
  cases hok : okL n ss m with
  | false =>
    have e : buildR n ss ps m = .tuple #[.string ⟨#[]⟩, .bool false] := by simp [buildR, buildOk, hok]
    rw [e]; clear e
    rw [hok] at HOK
    go_enter Tryz.func57, Tryz.ntmps57
    go_wp2_with (go_at_call 94; refine HOK.out.mono ?_; rintro e w1 ⟨rfl, hb1⟩)
    go_ret2
    exact ⟨rfl, HB0.out.trans (hb1.mono (by simp))⟩
  | true =>
    obtain ⟨h0, h3⟩ := okL_size hok
    have hwm : isW m = true := by
      unfold okL at hok
      simp only [Bool.and_eq_true] at hok
      exact hok.1
    rw [hok] at HOK
    by_cases hlen : ps.length = ss.length
    · obtain ⟨r, hr⟩ : ∃ r, r = buildR n ss ps m := ⟨_, rfl⟩
      rw [← hr]
      have HRR := hid hr
      have HLEN := hid hlen
      have HFAIL : Hid (∀ k, k < ps.length → (sumT m (ps.getD k ByteArray.empty) ≠ ss.getD k ByteArray.empty ∨ 3000 < total (ps.take (k + 1))) → r = .tuple #[.string ⟨#[]⟩, .bool false]) := fun k hk h => by
        rw [hr]
        unfold buildR
        rw [if_neg]
        unfold buildOk
        simp only [Bool.and_eq_true, decide_eq_true_eq]
        rintro ⟨_, h1, h2, _⟩
        rcases h with h | h
        · exact map_ne_at k hk h h2
        · have := total_le ps (k + 1); omega
      have HEND : Hid (ps.map (sumT m) = ss → r = if (total ps : Int) = n ∧ descS (catB ps) m = ss then .tuple #[.string (catB ps), .bool true] else .tuple #[.string ⟨#[]⟩, .bool false]) := fun h => by
        rw [hr]
        unfold buildR buildOk
        simp [hok, h]
      clear hr
      go_enter Tryz.func57, Tryz.ntmps57
      go_wp2_with fail
      refine HOK.out.mono ?_
      rintro e w1 ⟨rfl, hb1⟩
      have x1 := HNEW.out.below hb1
      have hc0 := x1.c0
      have hc1 := x1.c1
      have HS1 := hid (HS0.out.below hb1)
      have HP1 := hid (HP0.out.below hb1)
      have HB1 := hid (HB0.out.trans (hb1.mono (by simp)))
      have HX1 := hid x1
      have hlen' : ((ps.length : Int) == (ss.length : Int)) = true := by simp; omega
      clear hb1 x1 HS0 HP0 HB0 HNEW HOK hok hlen
      go_wp2
      rw [show ((ps.length : Int) != (ss.length : Int)) = false by rw [bne, hlen']; rfl]
      go_loopw [8, 9] (fun v i wr => ∃ (k : Nat) (ao : Option Addr) (cp : Nat), k ≤ ps.length ∧ i = .int .i64 k ∧ v = .slice ao (total (ps.take k)) cp ∧ wr.ownsRow w1.heap.size 5 1 v (total (ps.take k)) (Lib.byteCells (catL (ps.take k))) ∧ (∀ j, j < k → sumT m (ps.getD j ByteArray.empty) = ss.getD j ByteArray.empty) ∧ total (ps.take k) ≤ 3000 ∧ Below w1.heap.size w1 wr) (fun _ i _ => ps.length - (intOf i).toNat)
      case atStart => exact ⟨0, _, _, Nat.zero_le _, rfl, rfl, World.ownsRow_made w1 #[] 0 (Nat.le_refl _) (by simp [maxLen]) rfl, fun j hj => absurd hj (by omega), by simp [total], (Below.refl _ _).alloc (Nat.le_refl _) _⟩
      case round =>
        clear hlen'
        obtain ⟨k, ao, cp, hk, rfl, rfl, hrow, hall, htot, hbl⟩ := hrel
        have xr := HX1.out.below hbl
        have hr0 := xr.c0
        have hr1 := xr.c1
        by_cases hlt : k < ps.length
        · obtain ⟨_, _, e1, hcp⟩ := (HP1.out.below hbl).form
          simp only [Value.slice.injEq] at e1
          obtain ⟨rfl, _, rfl⟩ := e1
          obtain ⟨_, _, e2, hcs⟩ := (HS1.out.below hbl).form
          simp only [Value.slice.injEq] at e2
          obtain ⟨rfl, _, rfl⟩ := e2
          obtain ⟨b1, o1, rfl, hb1, hd1⟩ := hcp k hlt
          obtain ⟨b2, o2, rfl, hb2, hd2⟩ := hcs k (by rw [← HLEN.out]; exact hlt)
          have hT := total_take ps k hlt
          have hC := cells_take ps k hlt
          have HF1 := hid (HFAIL.out k hlt)
          rw [hT] at HF1
          have HA : Hid (sumT m (ps.getD k ByteArray.empty) = ss.getD k ByteArray.empty → ∀ j, j < k + 1 → sumT m (ps.getD j ByteArray.empty) = ss.getD j ByteArray.empty) := fun h j hj => by
            rcases Nat.lt_succ_iff_lt_or_eq.1 hj with h' | rfl
            · exact hall j h'
            · exact h
          have hzk : (ps.getD k ByteArray.empty).size ≤ 1048576 := hsz' k
          have HSk := hid fun W => specSum_any (ps.getD k ByteArray.empty) m W (by unfold maxLen; omega)
          change Hid (∀ W, Calls Tryz.prog 48 #[.string (ps.getD k ByteArray.empty), .int .i64 m] W fun e w' => e = .returned (.string (sumT m (ps.getD k ByteArray.empty))) ∧ Below W.heap.size W w') at HSk
          have HT : Hid (total (ps.take (k + 1)) = total (ps.take k) + (ps.getD k ByteArray.empty).size) := hT
          have HC := hid hC
          have HBL := hid hbl
          have HROW := hid hrow
          have HXR := hid xr
          have hlb0 : w.heap.size < wr.heap.size := xr.lt
          clear hall hcp hcs hT hC hbl hrow xr hc0 hc1 HFAIL
          generalize ps.getD k ByteArray.empty = p at *
          generalize ss.getD k ByteArray.empty = q at *
          generalize total (ps.take k) = t at *
          generalize Lib.byteCells (catL (ps.take k)) = bc at *
          go_wp2_with fail
          refine wp_region_held (S := fun w' => w'.cell? ⟨b1, o1 + k, none⟩ = some (.string p) ∧ w'.cell? ⟨w.heap.size, 1, none⟩ = some (.slice (some ⟨b2, o2, none⟩) ss.length ca) ∧ w'.cell? ⟨b2, o2 + k, none⟩ = some (.string q)) (by kernel_rfl) ?_
          change wpAnyH _ _ _ _ _ _ _ _ (World.drew _)
          have hS0 : wr.drew.cell? ⟨b1, o1 + k, none⟩ = some (.string p) ∧ wr.drew.cell? ⟨w.heap.size, 1, none⟩ = some (.slice (some ⟨b2, o2, none⟩) ss.length ca) ∧ wr.drew.cell? ⟨b2, o2 + k, none⟩ = some (.string q) := ⟨hd1, hr1, hd2⟩
          have hk0 : (0 : Int) ≤ (k : Int) := by omega
          have hk1 : (k : Int) < (ps.length : Int) := by omega
          have hk2 : (k : Int) < (ss.length : Int) := by have := HLEN.out; omega
          refine wpAnyH_take (i := 0) (v := .slice (some ⟨b1, o1, none⟩) ps.length cb) rfl (by kernel_rfl) (by kernel_rfl) (by kernel_rfl) (fun _ _ _ h => h) (.inl ⟨rfl, fun w' hS => by obtain ⟨s1, s2, s3⟩ := hS; go_simp⟩) hS0 ?_
          refine wpAnyH_take (i := 1) (v := .int .i64 k) rfl (by kernel_rfl) (by kernel_rfl) (by kernel_rfl) (fun _ _ _ h => h) (.inl ⟨rfl, fun w' hS => by obtain ⟨s1, s2, s3⟩ := hS; go_simp⟩) hS0 ?_
          refine wpAnyH_take (i := 2) (v := .pointer (some ⟨b1, o1 + k, none⟩)) rfl (by kernel_rfl) (by kernel_rfl) (by kernel_rfl) (fun _ _ _ h => h) (.inl ⟨rfl, fun w' hS => by obtain ⟨s1, s2, s3⟩ := hS; go_simp⟩) hS0 ?_
          refine wpAnyH_take (i := 3) (v := .string p) rfl (by kernel_rfl) (by kernel_rfl) (by kernel_rfl) (fun _ _ _ h => h) (.inl ⟨rfl, fun w' hS => by obtain ⟨s1, s2, s3⟩ := hS; go_simp⟩) hS0 ?_
          refine wpAnyH_take (i := 4) (v := .int .i64 m) rfl (by kernel_rfl) (by kernel_rfl) (by kernel_rfl) (fun _ _ _ h => h) (.inl ⟨rfl, fun w' hS => by obtain ⟨s1, s2, s3⟩ := hS; go_simp⟩) hS0 ?_
          refine wpAnyH_take (i := 6) (v := .pointer (some ⟨w.heap.size, 1, none⟩)) rfl (by kernel_rfl) (by kernel_rfl) (by kernel_rfl) (fun _ _ _ h => h) (.inl ⟨rfl, fun w' hS => by obtain ⟨s1, s2, s3⟩ := hS; go_simp⟩) hS0 ?_
          refine wpAnyH_take (i := 7) (v := .slice (some ⟨b2, o2, none⟩) ss.length ca) rfl (by kernel_rfl) (by kernel_rfl) (by kernel_rfl) (fun _ _ _ h => h) (.inl ⟨rfl, fun w' hS => by obtain ⟨s1, s2, s3⟩ := hS; go_simp⟩) hS0 ?_
          refine wpAnyH_take (i := 8) (v := .int .i64 k) rfl (by kernel_rfl) (by kernel_rfl) (by kernel_rfl) (fun _ _ _ h => h) (.inl ⟨rfl, fun w' hS => by obtain ⟨s1, s2, s3⟩ := hS; go_simp⟩) hS0 ?_
          refine wpAnyH_take (i := 9) (v := .pointer (some ⟨b2, o2 + k, none⟩)) rfl (by kernel_rfl) (by kernel_rfl) (by kernel_rfl) (fun _ _ _ h => h) (.inl ⟨rfl, fun w' hS => by obtain ⟨s1, s2, s3⟩ := hS; go_simp⟩) hS0 ?_
          refine wpAnyH_take (i := 10) (v := .string q) rfl (by kernel_rfl) (by kernel_rfl) (by kernel_rfl) (fun _ _ _ h => h) (.inl ⟨rfl, fun w' hS => by obtain ⟨s1, s2, s3⟩ := hS; go_simp⟩) hS0 ?_
          have hec := enters_of Tryz.func48 (by kernel_rfl) rfl
          refine held_one 5 (by kernel_rfl) (op_calls (f := 48) (args := #[.string p, .int .i64 m]) rfl rfl (by go_simp) (HSk.out _) ?_)
          rintro e w3 ⟨rfl, hb3⟩
          have hb3' : Below wr.heap.size wr w3 := ⟨hb3.os, hb3.tape, hb3.output, hb3.size, hb3.block⟩
          have hd13 := (hb3'.cell (p := ⟨b1, o1 + k, none⟩) hb1).trans hd1
          have hd23 := (hb3'.cell (p := ⟨b2, o2 + k, none⟩) hb2).trans hd2
          have x3 := HXR.out.below hb3'
          have hr13 := x3.c1
          have hS3 : w3.cell? ⟨b1, o1 + k, none⟩ = some (.string p) ∧ w3.cell? ⟨w.heap.size, 1, none⟩ = some (.slice (some ⟨b2, o2, none⟩) ss.length ca) ∧ w3.cell? ⟨b2, o2 + k, none⟩ = some (.string q) := ⟨hd13, hr13, hd23⟩
          have hrow3 := Below.row hb3' HROW.out
          have HB3 := hid (HBL.out.trans (hb3'.mono HBL.out.size))
          clear hb3 hb3' x3 hd1 hd2 hr1 hS0
          refine ⟨_, rfl, hS3, ?_⟩
          cases hx : ((sumT m p).toList == q.toList) with
          | false =>
            have HE : Hid (sumT m p ≠ q) := by
              show sumT m p ≠ q
              rw [beq_text] at hx; exact of_decide_eq_false hx
            refine wpAnyH_take (i := 11) (v := .bool true) rfl (by kernel_rfl) (by kernel_rfl) (by kernel_rfl) (fun _ _ _ h => h) (.inl ⟨by go_simp, fun w' hS => by obtain ⟨s1, s2, s3⟩ := hS; go_simp⟩) hS3 ?_
            refine wpAnyH_take (i := 12) (v := .bool true) rfl (by kernel_rfl) (by kernel_rfl) (by kernel_rfl) (fun _ _ _ h => h) (.inl ⟨by go_simp, fun w' hS => by obtain ⟨s1, s2, s3⟩ := hS; go_simp⟩) hS3 ?_
            refine wpAnyH_take (i := 13) (v := undef) rfl (by kernel_rfl) (by kernel_rfl) (by kernel_rfl) (fun _ _ _ h => h) (.inr ⟨by go_simp, rfl⟩) hS3 ?_
            refine wpAnyH_take (i := 14) (v := undef) rfl (by kernel_rfl) (by kernel_rfl) (by kernel_rfl) (fun _ _ _ h => h) (.inr ⟨by go_simp, rfl⟩) hS3 ?_
            refine wpAnyH_take (i := 15) (v := undef) rfl (by kernel_rfl) (by kernel_rfl) (by kernel_rfl) (fun _ _ _ h => h) (.inr ⟨by go_simp, rfl⟩) hS3 ?_
            refine wpAnyH_take (i := 16) (v := undef) rfl (by kernel_rfl) (by kernel_rfl) (by kernel_rfl) (fun _ _ _ h => h) (.inr ⟨by go_simp, rfl⟩) hS3 ?_
            refine wpAnyH_take (i := 17) (v := undef) rfl (by kernel_rfl) (by kernel_rfl) (by kernel_rfl) (fun _ _ _ h => h) (.inr ⟨by go_simp, rfl⟩) hS3 ?_
            refine wpAnyH_take (i := 18) (v := undef) rfl (by kernel_rfl) (by kernel_rfl) (by kernel_rfl) (fun _ _ _ h => h) (.inr ⟨by go_simp, rfl⟩) hS3 ?_
            refine wpAnyH_take (i := 19) (v := undef) rfl (by kernel_rfl) (by kernel_rfl) (by kernel_rfl) (fun _ _ _ h => h) (.inr ⟨by go_simp, rfl⟩) hS3 ?_
            refine wpAnyH_take (i := 20) (v := undef) rfl (by kernel_rfl) (by kernel_rfl) (by kernel_rfl) (fun _ _ _ h => h) (.inr ⟨by go_simp, rfl⟩) hS3 ?_
            refine wpAnyH_take (i := 21) (v := undef) rfl (by kernel_rfl) (by kernel_rfl) (by kernel_rfl) (fun _ _ _ h => h) (.inr ⟨by go_simp, rfl⟩) hS3 ?_
            refine wpAnyH_take (i := 22) (v := .bool true) rfl (by kernel_rfl) (by kernel_rfl) (by kernel_rfl) (fun _ _ _ h => h) (.inl ⟨by go_simp, fun w' hS => by obtain ⟨s1, s2, s3⟩ := hS; go_simp⟩) hS3 ?_
            refine wpAnyH_done (by kernel_rfl) ?_ _
            clear hx hS3
            go_simp
            go_wp2
            go_ret2
            exact ⟨by rw [HF1.out (.inl HE.out)]; rfl, HB1.out.trans (HB3.out.mono HB1.out.size)⟩
          | true =>
            have HE : Hid (sumT m p = q) := by
              show sumT m p = q
              rw [beq_text] at hx; exact of_decide_eq_true hx
            have ht3 : t ≤ 3000 := htot
            refine wpAnyH_take (i := 11) (v := .bool false) rfl (by kernel_rfl) (by kernel_rfl) (by kernel_rfl) (fun _ _ _ h => h) (.inl ⟨by go_simp, fun w' hS => by obtain ⟨s1, s2, s3⟩ := hS; go_simp⟩) hS3 ?_
            refine wpAnyH_take (i := 12) (v := .bool false) rfl (by kernel_rfl) (by kernel_rfl) (by kernel_rfl) (fun _ _ _ h => h) (.inl ⟨by go_simp, fun w' hS => by obtain ⟨s1, s2, s3⟩ := hS; go_simp⟩) hS3 ?_
            refine wpAnyH_take (i := 13) (v := .slice ao t cp) rfl (by kernel_rfl) (by kernel_rfl) (by kernel_rfl) (fun _ _ _ h => h) (.inl ⟨by go_simp, fun w' hS => by obtain ⟨s1, s2, s3⟩ := hS; go_simp⟩) hS3 ?_
            refine wpAnyH_take (i := 14) (v := .int .i64 t) rfl (by kernel_rfl) (by kernel_rfl) (by kernel_rfl) (fun _ _ _ h => h) (.inl ⟨by go_simp, fun w' hS => by obtain ⟨s1, s2, s3⟩ := hS; go_simp⟩) hS3 ?_
            refine wpAnyH_take (i := 15) (v := .slice (some ⟨b1, o1, none⟩) ps.length cb) rfl (by kernel_rfl) (by kernel_rfl) (by kernel_rfl) (fun _ _ _ h => h) (.inl ⟨by go_simp, fun w' hS => by obtain ⟨s1, s2, s3⟩ := hS; go_simp⟩) hS3 ?_
            refine wpAnyH_take (i := 16) (v := .int .i64 k) rfl (by kernel_rfl) (by kernel_rfl) (by kernel_rfl) (fun _ _ _ h => h) (.inl ⟨by go_simp, fun w' hS => by obtain ⟨s1, s2, s3⟩ := hS; go_simp⟩) hS3 ?_
            refine wpAnyH_take (i := 17) (v := .pointer (some ⟨b1, o1 + k, none⟩)) rfl (by kernel_rfl) (by kernel_rfl) (by kernel_rfl) (fun _ _ _ h => h) (.inl ⟨by go_simp, fun w' hS => by obtain ⟨s1, s2, s3⟩ := hS; go_simp⟩) hS3 ?_
            refine wpAnyH_take (i := 18) (v := .string p) rfl (by kernel_rfl) (by kernel_rfl) (by kernel_rfl) (fun _ _ _ h => h) (.inl ⟨by go_simp, fun w' hS => by obtain ⟨s1, s2, s3⟩ := hS; go_simp⟩) hS3 ?_
            refine wpAnyH_take (i := 19) (v := .int .i64 p.size) rfl (by kernel_rfl) (by kernel_rfl) (by kernel_rfl) (fun _ _ _ h => h) (.inl ⟨by go_simp, fun w' hS => by obtain ⟨s1, s2, s3⟩ := hS; go_simp⟩) hS3 ?_
            refine wpAnyH_take (i := 20) (v := .int .i64 (t + p.size)) rfl (by kernel_rfl) (by kernel_rfl) (by kernel_rfl) (fun _ _ _ h => h) (.inl ⟨by go_simp, fun w' hS => by obtain ⟨s1, s2, s3⟩ := hS; go_simp; rw [IntKind.wrap_i64]; omega⟩) hS3 ?_
            refine wpAnyH_take (i := 21) (v := .bool (decide (3000 < (t : Int) + p.size))) rfl (by kernel_rfl) (by kernel_rfl) (by kernel_rfl) (fun _ _ _ h => h) (.inl ⟨by go_simp, fun w' hS => by obtain ⟨s1, s2, s3⟩ := hS; go_simp⟩) hS3 ?_
            refine wpAnyH_take (i := 22) (v := .bool (decide (3000 < (t : Int) + p.size))) rfl (by kernel_rfl) (by kernel_rfl) (by kernel_rfl) (fun _ _ _ h => h) (.inl ⟨by go_simp, fun w' hS => by obtain ⟨s1, s2, s3⟩ := hS; go_simp⟩) hS3 ?_
            refine wpAnyH_done (by kernel_rfl) ?_ _
            clear hx hS3
            by_cases h3k : 3000 < (t : Int) + p.size
            · rw [decide_eq_true h3k]
              have HF := hid (HF1.out (.inr (by omega)))
              clear h3k
              go_simp
              go_wp2
              go_ret2
              exact ⟨by rw [HF.out]; rfl, HB1.out.trans (HB3.out.mono HB1.out.size)⟩
            · rw [decide_eq_false h3k]
              have h3k' : t + p.size ≤ 3000 := by omega
              clear h3k
              have hw13 := HB3.out.size
              have HROW3 := hid hrow3
              go_simp
              go_wp2_with (at_builtin; refine Lib.wpList_append_own_string _ rfl _ _ 129 9 rfl w1.heap.size 5 i0 Tryz.underlying129 Tryz.underlying9 hi hz0 hz1 hz2 _ t bc rfl hrow3 p rfl (by unfold maxLen; omega) (by omega) hw13 ?_; intro v' w4 hown4 hgrow4 _)
              obtain ⟨ao', cp', rfl⟩ := row_form5 hown4
              have HB4 := hid (HB3.out.grown hgrow4 hw13 (fun g e => (HROW3.out.lt g e).1))
              have HOWN4 := hid hown4
              clear hown4 hgrow4
              go_wp2
              go_roundw
              case rel => exact ⟨k + 1, ao', cp', by omega, by go_num, by rw [HT.out], by rw [HT.out, HC.out]; exact HOWN4.out, HA.out HE.out, by rw [HT.out]; exact h3k', HB4.out⟩
              case measure => simp [intOf]; omega
        · obtain rfl : k = ps.length := by omega
          rw [List.take_length] at *
          have HEQ := hid (HEND.out (map_eq_iff HLEN.out hall))
          have hcv := conv_cells hrow
          change (convert 129 9 (.slice ao (total ps) cp)).run Tryz.prog wr = .ok (.string (catB ps)) wr at hcv
          have hS0 : wr.drew.cell? ⟨w.heap.size, 0, none⟩ = some (.int .i64 n) ∧ wr.drew.cell? ⟨w.heap.size, 1, none⟩ = some (.slice a ss.length ca) ∧ (convert 129 9 (.slice ao (total ps) cp)).run Tryz.prog wr.drew = .ok (.string (catB ps)) wr.drew := ⟨hr0, hr1, conv_cells (w := wr.drew) hrow⟩
          have HCV : Hid (∀ W : World, W.ownsRow w1.heap.size 5 1 (.slice ao (total ps) cp) (total ps) (Lib.byteCells (catL ps)) → (convert 129 9 (.slice ao (total ps) cp)).run Tryz.prog W = .ok (.string (catB ps)) W) := fun W h => conv_cells h
          have HDS := hid fun W => specDescribe_any (catB ps) m W (by rw [catB_size]; unfold maxLen; omega)
          have hdl := descS_len (catB ps) m
          have hdn : (total ps : Int) = n → descN (catB ps) m = n := fun h => by
            unfold descN hasL
            rw [hwm, catB_size]
            have : total ps ≤ 3000 := htot
            simp [this, h]
          have HROW := hid hrow
          have HBL := hid hbl
          have HXR := hid xr
          have HSS := hid (HS1.out.below hbl)
          have hcl : (catB ps).size ≤ maxLen := by rw [catB_size]; unfold maxLen; omega
          have HDN := hid hdn
          clear hall hrow hbl xr HFAIL HEND hc0 hc1 hdn hcl
          generalize descS (catB ps) m = ds at *
          generalize descN (catB ps) m = dn at *
          generalize catL ps = cl at *
          generalize catB ps = cb0 at *
          generalize total ps = t at *
          go_wp2_with fail
          refine wp_region_held (S := fun w' => w'.cell? ⟨w.heap.size, 0, none⟩ = some (.int .i64 n) ∧ w'.cell? ⟨w.heap.size, 1, none⟩ = some (.slice a ss.length ca) ∧ (convert 129 9 (.slice ao t cp)).run Tryz.prog w' = .ok (.string cb0) w') (by kernel_rfl) ?_
          change wpAnyH _ _ _ _ _ _ _ _ (World.drew _)
          refine wpAnyH_take (i := 0) (v := .slice ao t cp) rfl (by kernel_rfl) (by kernel_rfl) (by kernel_rfl) (fun _ _ _ h => h) (.inl ⟨by go_simp, fun w' hS => by obtain ⟨s1, s2, s3⟩ := hS; go_simp⟩) hS0 ?_
          refine wpAnyH_take (i := 1) (v := .int .i64 t) rfl (by kernel_rfl) (by kernel_rfl) (by kernel_rfl) (fun _ _ _ h => h) (.inl ⟨by go_simp, fun w' hS => by obtain ⟨s1, s2, s3⟩ := hS; go_simp⟩) hS0 ?_
          refine wpAnyH_take (i := 2) (v := .pointer (some ⟨w.heap.size, 0, none⟩)) rfl (by kernel_rfl) (by kernel_rfl) (by kernel_rfl) (fun _ _ _ h => h) (.inl ⟨by go_simp, fun w' hS => by obtain ⟨s1, s2, s3⟩ := hS; go_simp⟩) hS0 ?_
          refine wpAnyH_take (i := 3) (v := .int .i64 n) rfl (by kernel_rfl) (by kernel_rfl) (by kernel_rfl) (fun _ _ _ h => h) (.inl ⟨by go_simp, fun w' hS => by obtain ⟨s1, s2, s3⟩ := hS; go_simp⟩) hS0 ?_
          by_cases htn : (t : Int) = n
          · have htb : ((t : Int) == n) = true := by simpa using htn
            refine wpAnyH_take (i := 4) (v := .bool false) rfl (by kernel_rfl) (by kernel_rfl) (by kernel_rfl) (fun _ _ _ h => h) (.inl ⟨by go_simp, fun w' hS => by obtain ⟨s1, s2, s3⟩ := hS; go_simp⟩) hS0 ?_
            refine wpAnyH_take (i := 5) (v := .bool false) rfl (by kernel_rfl) (by kernel_rfl) (by kernel_rfl) (fun _ _ _ h => h) (.inl ⟨by go_simp, fun w' hS => by obtain ⟨s1, s2, s3⟩ := hS; go_simp⟩) hS0 ?_
            refine wpAnyH_take (i := 6) (v := .slice ao t cp) rfl (by kernel_rfl) (by kernel_rfl) (by kernel_rfl) (fun _ _ _ h => h) (.inl ⟨by go_simp, fun w' hS => by obtain ⟨s1, s2, s3⟩ := hS; go_simp⟩) hS0 ?_
            refine wpAnyH_take (i := 7) (v := .string cb0) rfl (by kernel_rfl) (by kernel_rfl) (by kernel_rfl) (fun _ _ _ h => h) (.inl ⟨by go_simp, fun w' hS => by obtain ⟨s1, s2, s3⟩ := hS; go_simp⟩) hS0 ?_
            refine wpAnyH_take (i := 8) (v := .int .i64 m) rfl (by kernel_rfl) (by kernel_rfl) (by kernel_rfl) (fun _ _ _ h => h) (.inl ⟨by go_simp, fun w' hS => by obtain ⟨s1, s2, s3⟩ := hS; go_simp⟩) hS0 ?_
            refine wpAnyH_take (i := 10) (v := .agg #[.int .i64 n, .slice a ss.length ca]) rfl (by kernel_rfl) (by kernel_rfl) (by kernel_rfl) (fun _ _ _ h => h) (.inl ⟨by go_simp, fun w' hS => by obtain ⟨s1, s2, s3⟩ := hS; go_simp⟩) hS0 ?_
            have hec := enters_of Tryz.func96 (by kernel_rfl) rfl
            have hee := enters_of Tryz.func95 (by kernel_rfl) rfl
            have hcall := hid (HDS.out wr.drew)
            refine held_one 9 (by kernel_rfl) ?_
            refine @op_wpW _ _ _ _ _ _ 9 ?oa ?hoa ?hwa ?hha
            case hoa => rfl
            case hwa => go_simp
            clear hS0 hcv
            unfold Oper.wp
            go_simp
            refine hcall.out.mono ?_
            rintro e w5 ⟨v5, rfl, hr5, hb5⟩
            have hb5' : Below wr.heap.size wr w5 := ⟨hb5.os, hb5.tape, hb5.output, hb5.size, hb5.block⟩
            have x5 := HXR.out.below hb5'
            have hrow5 := Below.row hb5' HROW.out
            have hS5 : w5.cell? ⟨w.heap.size, 0, none⟩ = some (.int .i64 n) ∧ w5.cell? ⟨w.heap.size, 1, none⟩ = some (.slice a ss.length ca) ∧ (convert 129 9 (.slice ao t cp)).run Tryz.prog w5 = .ok (.string cb0) w5 := ⟨x5.c0, x5.c1, HCV.out w5 hrow5⟩
            have HS5 := hid (HSS.out.below hb5')
            have HB5 := hid (HBL.out.trans (hb5'.mono HBL.out.size))
            have HR5 := hid (Reads.of_row hr5)
            obtain ⟨a5, c5, rfl, _⟩ := row_form hr5
            refine ⟨hS5, ?_⟩
            have hsame := hid (l3Same_any dn n _ _ ds ss w5 HR5.out HS5.out (by unfold maxLen; omega) hl)
            have HX5 := hid x5
            have HROW5 := hid hrow5
            clear hS5 hb5 hb5' x5 hrow5 hr5
            refine held_one 11 (by kernel_rfl) ?_
            refine @op_wpW _ _ _ _ _ _ 11 ?ob ?hob ?hwb ?hhb
            case hob => rfl
            case hwb => go_simp
            unfold Oper.wp
            go_simp
            refine hsame.out.mono ?_
            rintro e w6 ⟨rfl, hb6⟩
            have x6 := HX5.out.below hb6
            have hrow6 := Below.row hb6 HROW5.out
            have hS6 : w6.cell? ⟨w.heap.size, 0, none⟩ = some (.int .i64 n) ∧ w6.cell? ⟨w.heap.size, 1, none⟩ = some (.slice a ss.length ca) ∧ (convert 129 9 (.slice ao t cp)).run Tryz.prog w6 = .ok (.string cb0) w6 := ⟨x6.c0, x6.c1, HCV.out w6 hrow6⟩
            have HB6 := hid (HB1.out.trans ((HB5.out.trans (hb6.mono HB5.out.size)).mono HB1.out.size))
            have hcv6 := hS6.2.2
            have hdn := HDN.out htn
            refine ⟨hS6, ?_⟩
            by_cases hds : ds = ss
            · have HRX : Hid (r = .tuple #[.string cb0, .bool true]) := by
                show _ = _
                rw [HEQ.out, if_pos ⟨htn, hds⟩]
              refine held_one 12 (by kernel_rfl) ?_
              refine @op_wpW _ _ _ _ _ _ 12 ?oc ?hoc ?hwc ?hhc
              case hoc => rfl
              case hwc => go_simp
              have hS7 := hid hS6
              clear hS6
              unfold Oper.wp
              go_simp
              refine ⟨⟨hS7.out.1, hS7.out.2.1⟩, ?_⟩
              refine held_one 13 (by kernel_rfl) ?_
              refine @op_wpW _ _ _ _ _ _ 13 ?od ?hod ?hwd ?hhd
              case hod => rfl
              case hwd => go_simp
              unfold Oper.wp
              go_simp
              refine ⟨⟨hS7.out.1, hS7.out.2.1⟩, wpAnyH_done (by kernel_rfl) ?_ _⟩
              clear hds hb6 x6 hrow6 htn htb
              go_simp
              go_wp2
              go_ret2
              exact ⟨by rw [HRX.out]; rfl, HB6.out⟩
            · have HRX : Hid (r = .tuple #[.string ⟨#[]⟩, .bool false]) := by
                show _ = _
                rw [HEQ.out, if_neg (fun h => hds h.2)]
              refine held_one 12 (by kernel_rfl) ?_
              refine @op_wpW _ _ _ _ _ _ 12 ?oe ?hoe ?hwe ?hhe
              case hoe => rfl
              case hwe => go_simp
              have hS7 := hid hS6
              clear hS6
              unfold Oper.wp
              go_simp
              refine ⟨⟨hS7.out.1, hS7.out.2.1⟩, ?_⟩
              refine held_one 13 (by kernel_rfl) ?_
              refine @op_wpW _ _ _ _ _ _ 13 ?of ?hof ?hwf ?hhf
              case hof => rfl
              case hwf => go_simp
              unfold Oper.wp
              go_simp
              refine ⟨⟨hS7.out.1, hS7.out.2.1⟩, wpAnyH_done (by kernel_rfl) ?_ _⟩
              clear hds hb6 x6 hrow6 htn htb
              go_simp
              go_wp2
              go_ret2
              exact ⟨by rw [HRX.out]; rfl, HB6.out⟩
          · have htb : ((t : Int) == n) = false := by simpa using htn
            have HRX : Hid (r = .tuple #[.string ⟨#[]⟩, .bool false]) := by
              show _ = _
              rw [HEQ.out, if_neg (fun h => htn h.1)]
            refine wpAnyH_take (i := 4) (v := .bool true) rfl (by kernel_rfl) (by kernel_rfl) (by kernel_rfl) (fun _ _ _ h => h) (.inl ⟨by go_simp, fun w' hS => by obtain ⟨s1, s2, s3⟩ := hS; go_simp⟩) hS0 ?_
            refine wpAnyH_take (i := 5) (v := .bool true) rfl (by kernel_rfl) (by kernel_rfl) (by kernel_rfl) (fun _ _ _ h => h) (.inl ⟨by go_simp, fun w' hS => by obtain ⟨s1, s2, s3⟩ := hS; go_simp⟩) hS0 ?_
            refine wpAnyH_take (i := 6) (v := undef) rfl (by kernel_rfl) (by kernel_rfl) (by kernel_rfl) (fun _ _ _ h => h) (.inr ⟨by go_simp, rfl⟩) hS0 ?_
            refine wpAnyH_take (i := 7) (v := undef) rfl (by kernel_rfl) (by kernel_rfl) (by kernel_rfl) (fun _ _ _ h => h) (.inr ⟨by go_simp, rfl⟩) hS0 ?_
            refine wpAnyH_take (i := 8) (v := undef) rfl (by kernel_rfl) (by kernel_rfl) (by kernel_rfl) (fun _ _ _ h => h) (.inr ⟨by go_simp, rfl⟩) hS0 ?_
            refine wpAnyH_take (i := 9) (v := undef) rfl (by kernel_rfl) (by kernel_rfl) (by kernel_rfl) (fun _ _ _ h => h) (.inr ⟨by go_simp, rfl⟩) hS0 ?_
            refine wpAnyH_take (i := 10) (v := undef) rfl (by kernel_rfl) (by kernel_rfl) (by kernel_rfl) (fun _ _ _ h => h) (.inr ⟨by go_simp, rfl⟩) hS0 ?_
            refine wpAnyH_take (i := 11) (v := undef) rfl (by kernel_rfl) (by kernel_rfl) (by kernel_rfl) (fun _ _ _ h => h) (.inr ⟨by go_simp, rfl⟩) hS0 ?_
            refine wpAnyH_take (i := 12) (v := undef) rfl (by kernel_rfl) (by kernel_rfl) (by kernel_rfl) (fun _ _ _ h => h) (.inr ⟨by go_simp, rfl⟩) hS0 ?_
            refine wpAnyH_take (i := 13) (v := .bool true) rfl (by kernel_rfl) (by kernel_rfl) (by kernel_rfl) (fun _ _ _ h => h) (.inl ⟨by go_simp, fun w' hS => by obtain ⟨s1, s2, s3⟩ := hS; go_simp⟩) hS0 ?_
            refine wpAnyH_done (by kernel_rfl) ?_ _
            clear htn htb hS0 hcv
            go_simp
            go_wp2
            go_ret2
            exact ⟨by rw [HRX.out]; rfl, (HB1.out.trans (HBL.out.mono HB1.out.size)).drew⟩
    · have e : buildR n ss ps m = .tuple #[.string ⟨#[]⟩, .bool false] := by
        unfold buildR
        rw [if_neg]
        unfold buildOk
        simp only [Bool.and_eq_true, decide_eq_true_eq]
        rintro ⟨_, _, rfl, _⟩
        simp at hlen
      rw [e]; clear e
      go_enter Tryz.func57, Tryz.ntmps57
      go_wp2_with fail
      refine HOK.out.mono ?_
      rintro e w1 ⟨rfl, hb1⟩
      have x1 := HNEW.out.below hb1
      have hc0 := x1.c0
      have hc1 := x1.c1
      have HB1 := hid (HB0.out.trans (hb1.mono (by simp)))
      have hlen' : ((ps.length : Int) == (ss.length : Int)) = false := by simp; omega
      clear hb1 x1 HS0 HP0 HB0 HNEW HOK hok hlen
      go_wp2
      go_ret2
      exact ⟨rfl, HB1.out⟩
end Go.Proofs.YtiipaeieofbdpaaGreatDoor
/- spec.l5Load and spec.Load: a thing put together. -/
namespace Go.Proofs.YtiipaeieofbdpaaGreatDoor
open Go.RowKit
/-- The text of the item with a sum. -/
def Found (wd : Int) (its : Itms) (s t : ByteArray) : Prop := ∃ i, i < its.length ∧ sumX wd (itx its i) = s ∧ t = itx its i
def Absent (wd : Int) (its : Itms) (s : ByteArray) : Prop := ∀ i, i < its.length → sumX wd (itx its i) ≠ s
/-- What Load answers of a valid store. -/
inductive LoadR (wd : Int) (its : Itms) (name : ByteArray) : Value → Prop where
  | none (n : Int) (ss : List ByteArray) (h : UL wd its name n ss false) : LoadR wd its name (.tuple #[.string ⟨#[]⟩, .bool false])
  | lacks (n : Int) (ss : List ByteArray) (h : UL wd its name n ss true) (i : Nat) (hi : i < ss.length) (ha : Absent wd its (tv ss i)) : LoadR wd its name (.tuple #[.string ⟨#[]⟩, .bool false])
  | build (n : Int) (ss ps : List ByteArray) (h : UL wd its name n ss true) (hl : ps.length = ss.length) (hf : ∀ i, i < ss.length → Found wd its (tv ss i) (tv ps i)) : LoadR wd its name (buildR n ss ps wd)
theorem Found.uniq {wd : Int} {its : Itms} {s t t' : ByteArray} (hN : (sumsL wd its).Pairwise (· < ·)) (h : Found wd its s t) (k : Found wd its s t') : t = t' := Under.uniq hN (.inl h) (.inl k)
theorem Found.not {wd : Int} {its : Itms} {s t : ByteArray} (h : Found wd its s t) (k : Absent wd its s) : False := by
  obtain ⟨i, hi, e, _⟩ := h
  exact k i hi e
theorem LoadR.uniq {wd : Int} {its : Itms} {name : ByteArray} {r r' : Value} (hN : (sumsL wd its).Pairwise (· < ·)) (h : LoadR wd its name r) (k : LoadR wd its name r') : r = r' := by
  cases h with
  | none n ss h =>
    cases k with
    | none n' ss' h' => rfl
    | lacks n' ss' h' i hi ha => rfl
    | build n' ss' ps h' hl hf => obtain ⟨_, _, e⟩ := h.uniq hN h'; cases e
  | lacks n ss h i hi ha =>
    cases k with
    | none n' ss' h' => rfl
    | lacks n' ss' h' j hj hb => rfl
    | build n' ss' ps h' hl hf =>
      obtain ⟨_, rfl, _⟩ := h.uniq hN h'
      exact ((hf i hi).not ha).elim
  | build n ss ps h hl hf =>
    cases k with
    | none n' ss' h' => obtain ⟨_, _, e⟩ := h.uniq hN h'; cases e
    | lacks n' ss' h' j hj hb =>
      obtain ⟨_, rfl, _⟩ := h.uniq hN h'
      exact ((hf j hj).not hb).elim
    | build n' ss' ps' h' hl' hf' =>
      obtain ⟨rfl, rfl, _⟩ := h.uniq hN h'
      have e : ps = ps' := List.ext_getElem (by rw [hl, hl']) (fun i h1 h2 => by
        have := (hf i (by omega)).uniq hN (hf' i (by omega))
        simpa [tv, h1, h2] using this)
      rw [e]
theorem build_form (n : Int) (ss ps : List ByteArray) (m : Int) : ∃ x b, buildR n ss ps m = .tuple #[.string x, .bool b] := by
  unfold buildR
  split
  · exact ⟨_, _, rfl⟩
  · exact ⟨_, _, rfl⟩
theorem str_new (w : World) (a : Value) (t : TypeId) : ∀ j u, [a][j]? = some u → (w.alloc (.cells #[a] t)).cell? ((⟨w.heap.size, 0, none⟩ : Addr).add j) = some u := by
  intro j u hj
  have e : (⟨w.heap.size, 0, none⟩ : Addr).add j = ⟨w.heap.size, j, none⟩ := by simp [Addr.add]; intro h; exact h.symm
  rw [e, World.cell?_alloc_new]
  simpa using hj
set_option maxRecDepth 100000 in
set_option maxHeartbeats 8000000 in
theorem l5Load_any (wd room : Int) (vi vp : Value) (its : Itms) (ts : List ByteArray) (name : ByteArray) (w : World) (hi : RdI w vi its) (hp : Reads w vp ts) (hli : its.length ≤ 1048576) (hsi : ∀ i, (itx its i).size ≤ 1048576) :
    Calls Tryz.prog 25 #[.agg #[.int .i64 wd, .int .i64 room, vi, vp], .string name] w fun e w' => ∃ r, e = .returned r ∧ LoadR wd its name r ∧ Below w.heap.size w w' := by
  obtain ⟨ai, ci, rfl, _⟩ := id hi
  obtain ⟨ap, cp, rfl, _⟩ := hp.form
  obtain ⟨i0, hi0, hz0, hz1, hz2⟩ := info_parts Tryz.info9
  have hA := (Below.refl w.heap.size w).alloc (Nat.le_refl _) (.cells #[.int .i64 wd, .int .i64 room, .slice ai its.length ci, .slice ap ts.length cp] 34)
  have HN0 := hid (Blk.new w 34 #[.int .i64 wd, .int .i64 room, .slice ai its.length ci, .slice ap ts.length cp])
  have HI := hid (hi.below hA)
  have HA := hid hA
  have HLL := hid (l4List_any wd room (.slice ai its.length ci) (.slice ap ts.length cp) its ts name _ (hi.below hA) (hp.below hA) hli hsi)
  have HAT := hid fun (a : Option Addr) (W : World) (h1 : RdI W (.slice a its.length ci) its) (p : ByteArray) => l4At_any wd room (.slice a its.length ci) (.slice ap ts.length cp) its p W h1 ⟨_, _, _, rfl⟩ hli hsi
  have HSI := hid hsi
  clear hi hp hA hsi
  go_enter Tryz.func25, Tryz.ntmps25
  go_wp2_with fail
  refine HLL.out.mono ?_
  rintro e w1 ⟨v1, n, ss, ok, rfl, hul, ho1, hb1⟩
  have B1 := HA.out.trans (hb1.mono (by simp))
  obtain ⟨a1, c1, rfl, _⟩ := row_form ho1
  have HUL := hid hul
  cases ok with
  | false =>
    have HB := hid (B1.alloc B1.size (.cells #[.int .i64 n, .slice a1 ss.length c1] 85))
    clear hul ho1 hb1 B1
    go_wp2
    go_ret2
    exact ⟨_, rfl, .none n ss HUL.out, HB.out⟩
  | true =>
  obtain ⟨hfew, _, hssz⟩ := hul.few
  have HSS : Hid (∀ i, (tv ss i).size ≤ 1048576) := fun i => by
    by_cases hi : i < ss.length
    · have hm : tv ss i ∈ ss := by unfold tv; rw [List.getD_eq_getElem?_getD, List.getElem?_eq_getElem hi]; exact List.getElem_mem hi
      obtain ⟨e, hw⟩ := hssz _ hm
      have : 1 ≤ wd ∧ wd ≤ 8 := of_decide_eq_true hw
      omega
    · unfold tv
      rw [List.getD_eq_getElem?_getD, List.getElem?_eq_none (by omega)]
      show (0 : Nat) ≤ 1048576
      omega
  have hA1 := (Below.refl w1.heap.size w1).alloc (Nat.le_refl _) (.cells #[.int .i64 n, .slice a1 ss.length c1] 85)
  have N1 := (HN0.out.below hb1).alloc (.cells #[.int .i64 n, .slice a1 ss.length c1] 85)
  have L1 : LBox (w1.alloc (.cells #[.int .i64 n, .slice a1 ss.length c1] 85)) w1.heap.size n (.slice a1 ss.length c1) := World.alloc_heap_new w1 _
  have HN1 := hid N1
  have HL1 := hid L1
  have HI1 := hid ((HI.out.below hb1).below hA1)
  have HS1 := hid (Reads.of_row (ho1.alloc (.cells #[.int .i64 n, .slice a1 ss.length c1] 85)))
  have HB1 := hid (B1.trans (hA1.mono B1.size))
  have hO : ((w1.alloc (.cells #[.int .i64 n, .slice a1 ss.length c1] 85)).alloc (.cells #[] 9)).ownsRow (w1.heap.size + 1) 9 1 (.slice (some ⟨w1.heap.size + 1, 0, none⟩) 0 0) 0 [] := by
    have := World.ownsRow_made (base := w1.heap.size + 1) (e := 9) (size := 1) (w1.alloc (.cells #[.int .i64 n, .slice a1 ss.length c1] 85)) #[] 0 (by simp) (by simp [maxLen]) rfl
    rw [World.size_alloc] at this
    exact this
  have HO := hid hO
  have hw1 := B1.size
  have hbx := (HN0.out.below hb1).lt
  clear hul ho1 hb1 B1 hA1 N1 L1 hO hssz
  go_wp2
  go_loopw [8, 9] (fun v i' wr => ∃ (k : Nat) (ps : List ByteArray), k ≤ ss.length ∧ i' = .int .i64 k ∧ ps.length = k ∧ (∀ j, j < k → Found wd its (tv ss j) (tv ps j)) ∧ wr.ownsRow (w1.heap.size + 1) 9 1 v k (ps.map Value.string) ∧ Below (w1.alloc (.cells #[.int .i64 n, .slice a1 ss.length c1] 85)).heap.size (w1.alloc (.cells #[.int .i64 n, .slice a1 ss.length c1] 85)) wr) (fun _ i' _ => ss.length - (intOf i').toNat)
  case atStart => exact ⟨0, [], Nat.zero_le _, rfl, rfl, fun j hj => absurd hj (by omega), HO.out, (Below.refl _ _).alloc (Nat.le_refl _) _⟩
  case round =>
    obtain ⟨k, ps, hk, rfl, hpl, hfd, hrow, hbl⟩ := hrel
    have N2 := HN1.out.below hbl
    have L2 := HL1.out.below hbl
    have hsr := hbl.size
    rw [World.size_alloc] at hsr
    have HBR := hid (HB1.out.trans (hbl.mono HB1.out.size))
    have HBL := hid hbl
    have HFD := hid hfd
    have HN2 := hid N2
    have HL2 := hid L2
    have HRW := hid hrow
    have x1 : wr.cell? ⟨w1.heap.size, 1, none⟩ = some (.slice a1 ss.length c1) := L2.c1
    obtain ⟨av, cv, rfl, _⟩ := row_form hrow
    by_cases hlt : k < ss.length
    case neg =>
      obtain rfl : k = ss.length := by omega
      have x0 : wr.cell? ⟨w1.heap.size, 0, none⟩ = some (.int .i64 n) := L2.c0
      have y0 : wr.cell? ⟨w.heap.size, 0, none⟩ = some (.int .i64 wd) := N2.cell 0
      have hr2 : Reads wr (.slice av ss.length cv) ps := Reads.of_row (base := w1.heap.size + 1) (by rw [hpl]; exact hrow)
      have hpz : ∀ i, (tv ps i).size ≤ 1048576 := fun i => by
        by_cases hi : i < ps.length
        · obtain ⟨j, _, _, e⟩ := HFD.out i (by omega)
          rw [e]
          exact HSI.out j
        · unfold tv
          rw [List.getD_eq_getElem?_getD, List.getElem?_eq_none (by omega)]
          show (0 : Nat) ≤ 1048576
          omega
      have HBD := hid (specBuild_any n (.slice a1 ss.length c1) (.slice av ss.length cv) ss ps wd wr (HS1.out.below hbl) hr2 (by unfold maxLen; omega) (by unfold maxLen; omega) (fun i => by have := HSS.out i; unfold tv at this; unfold maxLen; omega) hpz)
      have HLR := hid (LoadR.build n ss ps HUL.out hpl HFD.out)
      obtain ⟨xb, bb, hform⟩ := build_form n ss ps wd
      rw [hform] at HBD HLR
      clear hfd hrow hbl N2 L2 hr2 hpz hform
      go_wp2_with fail
      refine HBD.out.mono ?_
      rintro e w2 ⟨rfl, hb2⟩
      have HB2 := hid (HBR.out.trans (hb2.mono HBR.out.size))
      clear hb2
      go_wp2
      go_ret2
      exact ⟨_, rfl, HLR.out, HB2.out⟩
    obtain ⟨a1', c1', e', hcs⟩ := (HS1.out.below hbl).form
    cases e'
    obtain ⟨b0, o0, rfl, hpb, hpc⟩ := hcs k hlt
    have hpt : wr.cell? ⟨b0, o0 + k, none⟩ = some (.string (tv ss k)) := hpc
    have HABS : Hid (Absent wd its (tv ss k) → LoadR wd its name (.tuple #[.string ⟨#[]⟩, .bool false])) := fun h => .lacks n ss HUL.out k hlt h
    have HNX : Hid (∀ t, Found wd its (tv ss k) t → ∀ j, j < k + 1 → Found wd its (tv ss j) (tv (ps ++ [t]) j)) := fun t h j hj => by
      rcases Nat.lt_or_eq_of_le (Nat.le_of_lt_succ hj) with h1 | h1
      · have e : tv (ps ++ [t]) j = tv ps j := by unfold tv; rw [List.getD_eq_getElem?_getD, List.getElem?_append_left (by omega), ← List.getD_eq_getElem?_getD]
        rw [e]
        exact HFD.out j h1
      · subst h1
        have e : tv (ps ++ [t]) j = t := by unfold tv; rw [← hpl]; simp
        rw [e]
        exact h
    generalize tv ss k = p at hpt HABS HNX
    have hbd : Below wr.heap.size wr wr.drew := below_drewN (Below.refl _ _) 1
    have HAT1 := hid (HAT.out _ wr.drew ((HI1.out.below hbl).below hbd) p)
    have hS0 : wr.drew.cell? ⟨w.heap.size, 0, none⟩ = some (.int .i64 wd) ∧ wr.drew.cell? ⟨w.heap.size, 1, none⟩ = some (.int .i64 room) ∧ wr.drew.cell? ⟨w.heap.size, 2, none⟩ = some (.slice ai its.length ci) ∧ wr.drew.cell? ⟨w.heap.size, 3, none⟩ = some (.slice ap ts.length cp) ∧ wr.drew.cell? ⟨w1.heap.size, 1, none⟩ = some (.slice (some ⟨b0, o0, none⟩) ss.length c1) ∧ wr.drew.cell? ⟨b0, o0 + k, none⟩ = some (.string p) := ⟨N2.cell 0, N2.cell 1, N2.cell 2, N2.cell 3, L2.c1, hpt⟩
    have HPB := hid hpb
    have HPT := hid hpt
    clear hcs hpc hpb hpt hfd hrow hbl N2 L2 hbd
    have hec := enters_of Tryz.func56 (by kernel_rfl) rfl
    go_wp2_with fail
    refine wp_region_held (S := fun w' => w'.cell? ⟨w.heap.size, 0, none⟩ = some (.int .i64 wd) ∧ w'.cell? ⟨w.heap.size, 1, none⟩ = some (.int .i64 room) ∧ w'.cell? ⟨w.heap.size, 2, none⟩ = some (.slice ai its.length ci) ∧ w'.cell? ⟨w.heap.size, 3, none⟩ = some (.slice ap ts.length cp) ∧ w'.cell? ⟨w1.heap.size, 1, none⟩ = some (.slice (some ⟨b0, o0, none⟩) ss.length c1) ∧ w'.cell? ⟨b0, o0 + k, none⟩ = some (.string p)) (by kernel_rfl) ?_
    change wpAnyH _ _ _ _ _ _ _ _ (World.drew _)
    refine wpAnyH_take (i := 0) (v := .agg #[.int .i64 wd, .int .i64 room, .slice ai its.length ci, .slice ap ts.length cp]) rfl (by kernel_rfl) (by kernel_rfl) (by kernel_rfl) (fun _ _ _ h => h) (.inl ⟨rfl, fun w' hS => by obtain ⟨s1, s2, s3, s4, s5, s6⟩ := hS; go_simp⟩) hS0 ?_
    refine wpAnyH_take (i := 1) (v := .pointer (some ⟨w1.heap.size, 1, none⟩)) rfl (by kernel_rfl) (by kernel_rfl) (by kernel_rfl) (fun _ _ _ h => h) (.inl ⟨rfl, fun w' hS => by obtain ⟨s1, s2, s3, s4, s5, s6⟩ := hS; go_simp⟩) hS0 ?_
    refine wpAnyH_take (i := 2) (v := .slice (some ⟨b0, o0, none⟩) ss.length c1) rfl (by kernel_rfl) (by kernel_rfl) (by kernel_rfl) (fun _ _ _ h => h) (.inl ⟨rfl, fun w' hS => by obtain ⟨s1, s2, s3, s4, s5, s6⟩ := hS; go_simp⟩) hS0 ?_
    refine wpAnyH_take (i := 3) (v := .int .i64 (k : Nat)) rfl (by kernel_rfl) (by kernel_rfl) (by kernel_rfl) (fun _ _ _ h => h) (.inl ⟨rfl, fun w' hS => by obtain ⟨s1, s2, s3, s4, s5, s6⟩ := hS; go_simp⟩) hS0 ?_
    refine wpAnyH_take (i := 4) (v := .pointer (some ⟨b0, o0 + k, none⟩)) rfl (by kernel_rfl) (by kernel_rfl) (by kernel_rfl) (fun _ _ _ h => h) (.inl ⟨rfl, fun w' hS => by obtain ⟨s1, s2, s3, s4, s5, s6⟩ := hS; go_simp⟩) hS0 ?_
    refine wpAnyH_take (i := 5) (v := .string p) rfl (by kernel_rfl) (by kernel_rfl) (by kernel_rfl) (fun _ _ _ h => h) (.inl ⟨rfl, fun w' hS => by obtain ⟨s1, s2, s3, s4, s5, s6⟩ := hS; go_simp⟩) hS0 ?_
    refine held_one 6 (by kernel_rfl) (op_calls (f := 56) (args := #[.agg #[.int .i64 wd, .int .i64 room, .slice ai its.length ci, .slice ap ts.length cp], .string p]) rfl rfl (by go_simp) HAT1.out ?_)
    rintro e w3 ⟨r, rfl, hr, hb3⟩
    have hb3' : Below wr.heap.size wr w3 := ⟨hb3.os, hb3.tape, hb3.output, hb3.size, hb3.block⟩
    have N3 := HN2.out.below hb3'
    have L3 := HL2.out.below hb3'
    have hS1 : w3.cell? ⟨w.heap.size, 0, none⟩ = some (.int .i64 wd) ∧ w3.cell? ⟨w.heap.size, 1, none⟩ = some (.int .i64 room) ∧ w3.cell? ⟨w.heap.size, 2, none⟩ = some (.slice ai its.length ci) ∧ w3.cell? ⟨w.heap.size, 3, none⟩ = some (.slice ap ts.length cp) ∧ w3.cell? ⟨w1.heap.size, 1, none⟩ = some (.slice (some ⟨b0, o0, none⟩) ss.length c1) ∧ w3.cell? ⟨b0, o0 + k, none⟩ = some (.string p) := ⟨N3.cell 0, N3.cell 1, N3.cell 2, N3.cell 3, L3.c1, (hb3'.cell (p := ⟨b0, o0 + k, none⟩) HPB.out).trans HPT.out⟩
    have D3 := HBL.out.trans (hb3'.mono HBL.out.size)
    have HB3 := hid (HBR.out.trans (hb3'.mono HBR.out.size))
    have hrow3 := Below.row hb3' HRW.out
    have y2 : w3.cell? ⟨w.heap.size, 2, none⟩ = some (.slice ai its.length ci) := N3.cell 2
    have hs3 := hb3'.size
    clear hb3 hb3' N3 L3 hS0
    refine ⟨_, rfl, hS1, ?_⟩
    refine wpAnyH_take (i := 7) (v := .int .i64 r) rfl (by kernel_rfl) (by kernel_rfl) (by kernel_rfl) (fun _ _ _ h => h) (.inl ⟨rfl, fun w' hS => by obtain ⟨s1, s2, s3, s4, s5, s6⟩ := hS; go_simp⟩) hS1 ?_
    refine wpAnyH_done (by kernel_rfl) ?_ _
    clear hS1
    go_simp
    rcases hr with ⟨rfl, hno⟩ | ⟨i, hlti, rfl, hsum⟩
    · have HLR := hid (HABS.out hno)
      clear hno hrow3 D3 y2
      go_wp2
      go_ret2
      exact ⟨_, rfl, HLR.out, HB3.out⟩
    · obtain ⟨ai', ci', e', hci⟩ := id (HI1.out.below D3)
      cases e'
      obtain ⟨b5, o5, rfl, hb5, hc5, _⟩ := hci i hlti
      have HFN := hid (HNX.out (itx its i) ⟨i, hlti, hsum, rfl⟩)
      have y3 : ∀ o, (w3.alloc o).cell? ⟨w.heap.size, 2, none⟩ = some (.slice (some ⟨b5, o5, none⟩) its.length ci) := fun o => Lib.cell?_alloc_some _ y2
      generalize itx its i = t at hc5 HFN
      have hni : ¬ ((i : Int) < 0) := by omega
      have HD3 := hid D3
      clear hci hb5 hsum D3
      go_wp2_with (at_builtin; refine wpList_append_own _ rfl _ _ 23 rfl (w1.heap.size + 1) 9 i0 (.string ⟨#[]⟩) 1 16 Tryz.underlying23 hi0 hz0 hz1 hz2 rfl (by decide) _ _ _ rfl (hrow3.alloc _) ⟨_, 0, none⟩ 1 1 [.string t] rfl rfl (str_new _ _ _) (by simp [Value.oneCell']) (by unfold maxLen; omega) (by omega) (by simp; omega) ?_; intro v' w6 hown' hgrow _; obtain ⟨a6, c6, rfl, _⟩ := row_form hown')
      have hD6 := (HD3.out.alloc HD3.out.size (.cells #[.string t] 9)).grown hgrow (by simp; omega) (fun g e => by have := (hrow3.lt g e).1; rw [World.size_alloc]; omega)
      exact ⟨⟨k + 1, ps ++ [t], by omega, by go_num, by simp [hpl], HFN.out, by simpa using hown', hD6⟩, by simp [intOf]; omega⟩
/-- What Load answers. -/
def LoadV (wd room : Int) (its : Itms) (ts : List ByteArray) (name : ByteArray) (r : Value) : Prop := (¬ ValidSt wd room its ts ∧ r = .tuple #[.string ⟨#[]⟩, .bool false]) ∨ (ValidSt wd room its ts ∧ LoadR wd its name r)
theorem LoadV.uniq {wd room : Int} {its : Itms} {ts : List ByteArray} {name : ByteArray} {r r' : Value} (h : LoadV wd room its ts name r) (k : LoadV wd room its ts name r') : r = r' := by
  rcases h with ⟨hn, rfl⟩ | ⟨hv, h⟩ <;> rcases k with ⟨kn, rfl⟩ | ⟨kv, k⟩
  · rfl
  · exact absurd kv hn
  · exact absurd hv kn
  · exact h.uniq (sums_asc hv.each) k
end Go.Proofs.YtiipaeieofbdpaaGreatDoor
/- The parts of a thing: (*shelf).pieceUnder, onePiece.built, asThing. -/
namespace Go.Proofs.YtiipaeieofbdpaaGreatDoor
open Go.RowKit
/-- A piece as a store has it. -/
def Piece (wd : Int) (its : Itms) (s t : ByteArray) (there : Bool) : Prop := (there = true ∧ Found wd its s t) ∨ (there = false ∧ Absent wd its s ∧ t = ⟨#[]⟩)
theorem piece_at {wd : Int} {its : Itms} (hN : (sumsL wd its).Pairwise (· < ·)) (s : ByteArray) : ∃ t u there, Piece wd its s t there ∧ (mapI wd its its.length).atKey (.string s.data.toList) (datI (⟨#[]⟩, 0)) = datI (t, u) ∧ Maps.has (mapI wd its its.length) (.string s.data.toList) = there := by
  by_cases h : ∃ i, i < its.length ∧ sumX wd (itx its i) = s
  · obtain ⟨i, hi, e⟩ := h
    refine ⟨itx its i, itu its i, true, .inl ⟨rfl, i, hi, e, rfl⟩, ?_, ?_⟩
    · rw [← e]
      exact mapI_at wd its hN _ its.length (Nat.le_refl _) i hi
    · rw [mapI_has wd its s.data.toList its.length (Nat.le_refl _), ← sumsL_len wd its, List.take_length, ← e]
      exact List.mem_of_getElem? (sumsL_get wd its i hi)
  · have hno : Absent wd its s := fun i hi e => h ⟨i, hi, e⟩
    have hf : Maps.has (mapI wd its its.length) (.string s.data.toList) = false := by
      cases hh : Maps.has (mapI wd its its.length) (.string s.data.toList) with
      | false => rfl
      | true =>
        have := (mapI_has wd its s.data.toList its.length (Nat.le_refl _)).1 hh
        rw [← sumsL_len wd its, List.take_length] at this
        unfold sumsL at this
        obtain ⟨p, hp, e⟩ := List.mem_map.1 this
        obtain ⟨i, hi, rfl⟩ := List.mem_iff_getElem.1 hp
        exact absurd (ByteArray.ext (by simpa [itx, hi] using e)) (hno i hi)
    exact ⟨⟨#[]⟩, 0, false, .inr ⟨rfl, hno, rfl⟩, Maps.atKey_of_not_has hf _, hf⟩
set_option maxRecDepth 100000 in
set_option maxHeartbeats 2000000 in
theorem pieceUnder_any (sb mb : Nat) (vc : Value) (wd room tot : Int) (its : Itms) (s : ByteArray) (w : World) (hbox : Blk w sb 111 #[.int .i64 wd, .int .i64 room, .int .i64 tot, .map (some mb), vc]) (hmap : w.ownsMap Tryz.prog 9 itemElem mb its.length (mapI wd its its.length)) (hN : (sumsL wd its).Pairwise (· < ·)) (hs : s.size ≤ 1048576) :
    Calls Tryz.prog 106 #[.pointer (some ⟨sb, 0, none⟩), .string s] w fun e w' => ∃ t there, e = .returned (.agg #[.string s, .string t, .bool there]) ∧ Piece wd its s t there ∧ Below w.heap.size w w' := by
  obtain ⟨t, u, there, hP, hat, hhas⟩ := piece_at hN s
  have HP := hid hP
  have b3 : ∀ o, (w.alloc o).cell? ⟨sb, 3, none⟩ = some (.map (some mb)) := fun o => (hbox.alloc o).cell 3
  have hmap1 := hmap.alloc (.cells #[.string ⟨#[]⟩, .string ⟨#[]⟩, .bool false] 153)
  clear hP hbox hmap
  go_enter Tryz.func106, Tryz.ntmps106
  go_wp2_with (at_lookup; refine wpList_look_item _ rfl _ _ rfl mb its.length (mapI wd its its.length) (by go_simp) hmap1 s (by unfold maxLen; omega) (by go_simp) t u hat there hhas ?_)
  refine bodyPost_ret (v := .agg #[.string s, .string t, .bool there]) (by simp [results, Tryz.results106, go_sem]) rfl ⟨t, there, rfl, HP.out, ?_⟩
  exact ((Below.refl _ _).alloc (Nat.le_refl _) _).alloc (by simp) _
set_option maxRecDepth 100000 in
set_option maxHeartbeats 1000000 in
theorem oneBuilt_any (s t : ByteArray) (there : Bool) (w : World) :
    Calls Tryz.prog 256 #[.agg #[.string s, .string t, .bool there]] w fun e w' => e = .returned (.tuple #[.string t, .bool there]) ∧ Below w.heap.size w w' := by
  have HA := hid ((Below.refl w.heap.size w).alloc (Nat.le_refl _) (.cells #[.string s, .string t, .bool there] 153))
  go_enter Tryz.func256, Tryz.ntmps256
  go_wp2
  go_quiet (fail)
  go_wp2
  go_ret2
  exact ⟨rfl, below_drewN HA.out _⟩
@[go_sem] theorem mkOne (x : Value) (W : World) : (Instr.makeInterface 153 x).run Tryz.prog W = .ok (.iface 153 x) W := run_makeInterface W 153 x (by kernel_rfl)
@[go_sem] theorem mkWhole (x : Value) (W : World) : (Instr.makeInterface 158 x).run Tryz.prog W = .ok (.iface 158 x) W := run_makeInterface W 158 x (by kernel_rfl)
@[go_sem] theorem assert_one (x : Value) (W : World) : (Instr.typeAssert (.iface 153 x) 64 153 true).run Tryz.prog W = .ok (.tuple #[x, .bool true]) W := by kernel_rfl
@[go_sem] theorem assert_whole (x : Value) (W : World) : (Instr.typeAssert (.iface 158 x) 64 153 true).run Tryz.prog W = .ok (.tuple #[.agg #[.string ⟨#[]⟩, .string ⟨#[]⟩, .bool false], .bool false]) W := by kernel_rfl
set_option maxRecDepth 100000 in
set_option maxHeartbeats 1000000 in
theorem asThing_one (s t : ByteArray) (there : Bool) (w : World) :
    Calls Tryz.prog 67 #[.iface 153 (.agg #[.string s, .string t, .bool there])] w fun e w' => e = .returned (.iface 153 (.agg #[.string s, .string ⟨#[]⟩, .bool false])) ∧ Below w.heap.size w w' := by
  have HA := hid ((Below.refl w.heap.size w).alloc (Nat.le_refl _) (.cells #[.string s, .string t, .bool there] 153))
  go_enter Tryz.func67, Tryz.ntmps67
  go_wp2
  go_ret
  exact ⟨rfl, HA.out⟩
set_option maxRecDepth 100000 in
set_option maxHeartbeats 1000000 in
theorem asThing_whole (x : Value) (w : World) :
    Calls Tryz.prog 67 #[.iface 158 x] w fun e w' => e = .returned (.iface 158 x) ∧ Below w.heap.size w w' := by
  go_enter Tryz.func67, Tryz.ntmps67
  go_wp2
  go_ret
  exact ⟨rfl, Below.refl _ _⟩
end Go.Proofs.YtiipaeieofbdpaaGreatDoor
/- (*shelf).under: the part with a sum. -/
namespace Go.Proofs.YtiipaeieofbdpaaGreatDoor
open Go.RowKit
/-- A part in its cell. -/
abbrev partV (s t : ByteArray) (b : Bool) : Value := .iface 153 (.agg #[.string s, .string t, .bool b])
theorem Tryz.partInfo : (Tryz.prog.info? 64).map (fun i => (i.zero, i.size, i.bytes)) = some (some .nilIface, 1, 16) := by kernel_rfl
theorem wp_append_part {o : Oper} {a : Act} {w : World} {K : Act → World → Prop} {Q : Exit → Act → World → Prop} (s x : Operand)
    (ho : o.op = .call { callee := .builtin .append, args := #[s, x], argTypes := #[156, 156] }) (B : Nat) (v : Value) (n : Nat) (xs : List Value) (hs : a.eval s = v) (hown : w.ownsRow B 64 1 v n xs)
    (ad : Addr) (k c : Nat) (ys : List Value) (hx : a.eval x = .slice (some ad) k c) (hl : ys.length = k) (hc : ∀ j u, ys[j]? = some u → w.cell? (ad.add j) = some u) (h1 : ∀ u ∈ ys, u.oneCell' = true) (hlen : n + k ≤ 2097152) (hB : B ≤ w.heap.size)
    (h : ∀ v' w', w'.ownsRow B 64 1 v' (n + k) (xs ++ ys) → Below B w w' → w.grownBy w' v.ownBlock → K (a.put o.dst v') w') : o.wp Tryz.prog a w K Q := by
  obtain ⟨i0, hi, hz0, hz1, hz2⟩ := info_parts Tryz.partInfo
  refine wp_append_own w s x 156 ho B 64 i0 .nilIface 1 16 Tryz.underlying156 hi hz0 hz1 hz2 rfl (by decide) v n xs hs hown ad k c ys hx (by omega) hc h1 (by unfold maxLen; omega) (by omega) hB ?_
  intro v' w' ho' hg' _
  exact h v' w' ho' ((Below.refl B w).grown hg' hB (fun g e => (hown.lt g e).1)) hg'
theorem parts_form {w : World} {base n : Nat} {v : Value} {xs : List Value} (h : w.ownsRow base 64 1 v n xs) : ∃ a cap, v = .slice a n cap := by
  rcases h with ⟨_, ⟨rfl, rfl⟩ | ⟨g, cap, cur, rfl, hb, _⟩⟩
  · exact ⟨none, 0, rfl⟩
  · exact ⟨_, cap, rfl⟩
theorem part_below {W W' : World} {base : Nat} {e : TypeId} {v : Value} {n : Nat} {xs : List Value} (h : W.ownsRow base e 1 v n xs) (hb : Below W.heap.size W W') : W'.ownsRow base e 1 v n xs :=
  h.kept (grown_of_below hb) (by cases hv : v.ownBlock <;> simp)
/-- The parts of a list. -/
def PartsOf (wd : Int) (its : Itms) (ss : List ByteArray) (k : Nat) (vs : List Value) : Prop := vs.length = k ∧ ∀ j, j < k → ∃ t b, vs[j]? = some (partV (tv ss j) t b) ∧ Piece wd its (tv ss j) t b
theorem PartsOf.add {wd : Int} {its : Itms} {ss : List ByteArray} {k : Nat} {vs : List Value} (h : PartsOf wd its ss k vs) (t : ByteArray) (b : Bool) (hp : Piece wd its (tv ss k) t b) : PartsOf wd its ss (k + 1) (vs ++ [partV (tv ss k) t b]) := by
  obtain ⟨hl, hv⟩ := h
  refine ⟨by simp [hl], fun j hj => ?_⟩
  by_cases e : j = k
  · subst e
    exact ⟨t, b, by rw [List.getElem?_append_right (by omega), hl]; simp, hp⟩
  · obtain ⟨t', b', h1, h2⟩ := hv j (by omega)
    exact ⟨t', b', by rw [List.getElem?_append_left (by omega)]; exact h1, h2⟩
/-- What under answers. -/
def UnderR (wd : Int) (its : Itms) (name : ByteArray) (w : World) (e : Ending) (w' : World) : Prop :=
  (∃ n ss t b, e = .returned (partV name t b) ∧ UL wd its name n ss false ∧ Piece wd its name t b ∧ Below w.heap.size w w') ∨
  (∃ n ss vs vl vp B, e = .returned (.iface 158 (.agg #[.int .i64 n, vl, .int .i64 wd, vp])) ∧ UL wd its name n ss true ∧ Reads w' vl ss ∧ w'.ownsRow B 64 1 vp ss.length vs ∧ PartsOf wd its ss ss.length vs ∧ Below w.heap.size w w')
set_option maxRecDepth 100000 in
set_option maxHeartbeats 8000000 in
theorem under_any (sb mb : Nat) (vc : Value) (wd room tot : Int) (its : Itms) (name : ByteArray) (w : World) (hbox : Blk w sb 111 #[.int .i64 wd, .int .i64 room, .int .i64 tot, .map (some mb), vc]) (hmap : w.ownsMap Tryz.prog 9 itemElem mb its.length (mapI wd its its.length)) (hN : (sumsL wd its).Pairwise (· < ·)) (hs : name.size ≤ 1048576) (hsi : ∀ i, (itx its i).size ≤ 1048576) (hE : Errs w) :
    Calls Tryz.prog 68 #[.pointer (some ⟨sb, 0, none⟩), .string name] w (UnderR wd its name w) := by
  have HLU := hid (listUnder_any sb mb vc wd room tot its name w hbox hmap hN hs hsi hE)
  have HPU := hid fun (W : World) (h1 : Blk W sb 111 #[.int .i64 wd, .int .i64 room, .int .i64 tot, .map (some mb), vc]) (h2 : W.ownsMap Tryz.prog 9 itemElem mb its.length (mapI wd its its.length)) (p : ByteArray) (hp : p.size ≤ 1048576) => pieceUnder_any sb mb vc wd room tot its p W h1 h2 hN hp
  have HBX := hid hbox
  have HMP := hid hmap
  have hsl := hbox.lt
  have HNS := hid hs
  clear hbox hmap hN hs hsi hE
  go_enter Tryz.func68, Tryz.ntmps68
  go_wp2_with fail
  refine HLU.out.mono ?_
  rintro e w1 ⟨v1, n, ss, ok, rfl, hul, ho1, hb1⟩
  obtain ⟨a1, c1, rfl, _⟩ := row_form ho1
  have hA1 := (Below.refl w1.heap.size w1).alloc (Nat.le_refl _) (.cells #[.int .i64 n, .slice a1 ss.length c1] 85)
  have B2 := hb1.trans (hA1.mono hb1.size)
  have HUL := hid hul
  cases ok with
  | false =>
    have HP := hid (HPU.out _ (HBX.out.below B2) (HMP.out.kept (grown_of_below B2) (by simp)) name HNS.out)
    have HB2 := hid B2
    clear hul ho1 hb1 hA1 B2
    go_wp2_with fail
    refine HP.out.mono ?_
    rintro e w2 ⟨t, b, rfl, hp, hb2⟩
    have HB3 := hid (HB2.out.trans (hb2.mono HB2.out.size))
    have HPP := hid hp
    clear hb2 hp
    go_wp2
    go_ret
    exact .inl ⟨n, ss, t, b, rfl, HUL.out, HPP.out, HB3.out⟩
  | true =>
  obtain ⟨hfew, _, hssz⟩ := hul.few
  have HSS : Hid (∀ i, i < ss.length → (tv ss i).size ≤ 1048576) := fun i hi => by
    have hm : tv ss i ∈ ss := by unfold tv; rw [List.getD_eq_getElem?_getD, List.getElem?_eq_getElem hi]; exact List.getElem_mem hi
    obtain ⟨e, hw⟩ := hssz _ hm
    have : 1 ≤ wd ∧ wd ≤ 8 := of_decide_eq_true hw
    omega
  have HROW : Hid (w1.ownsRow (w.heap.size + 1) 9 1 (.slice a1 ss.length c1) ss.length (ss.map Value.string)) := ho1
  have L1 : LBox (w1.alloc (.cells #[.int .i64 n, .slice a1 ss.length c1] 85)) w1.heap.size n (.slice a1 ss.length c1) := World.alloc_heap_new w1 _
  have hws := hb1.size
  have X1 := HBX.out.below B2
  have hS0 : (w1.alloc (.cells #[.int .i64 n, .slice a1 ss.length c1] 85)).drew.cell? ⟨w1.heap.size, 0, none⟩ = some (.int .i64 n) ∧ (w1.alloc (.cells #[.int .i64 n, .slice a1 ss.length c1] 85)).drew.cell? ⟨w1.heap.size, 1, none⟩ = some (.slice a1 ss.length c1) ∧ (w1.alloc (.cells #[.int .i64 n, .slice a1 ss.length c1] 85)).drew.cell? ⟨sb, 0, none⟩ = some (.int .i64 wd) := ⟨L1.c0, L1.c1, X1.cell 0⟩
  have L2 := fun (o : Obj) => L1.below ((Below.refl _ (w1.alloc (.cells #[.int .i64 n, .slice a1 ss.length c1] 85))).alloc (Nat.le_refl _) o)
  have X2 := fun (o : Obj) => X1.alloc o
  have hS1 : ∀ o, ((w1.alloc (.cells #[.int .i64 n, .slice a1 ss.length c1] 85)).alloc o).drew.cell? ⟨w1.heap.size, 0, none⟩ = some (.int .i64 n) ∧ ((w1.alloc (.cells #[.int .i64 n, .slice a1 ss.length c1] 85)).alloc o).drew.cell? ⟨w1.heap.size, 1, none⟩ = some (.slice a1 ss.length c1) ∧ ((w1.alloc (.cells #[.int .i64 n, .slice a1 ss.length c1] 85)).alloc o).drew.cell? ⟨sb, 0, none⟩ = some (.int .i64 wd) := fun o => ⟨(L2 o).c0, (L2 o).c1, (X2 o).cell 0⟩
  have HB1 := hid hb1
  clear hul ho1 hb1 hA1 B2 hssz L1 L2 X1 X2
  go_wp2_with fail
  refine wp_region_held (S := fun w' => w'.cell? ⟨w1.heap.size, 0, none⟩ = some (.int .i64 n) ∧ w'.cell? ⟨w1.heap.size, 1, none⟩ = some (.slice a1 ss.length c1) ∧ w'.cell? ⟨sb, 0, none⟩ = some (.int .i64 wd)) (by kernel_rfl) ?_
  change wpAnyH _ _ _ _ _ _ _ _ (World.drew _)
  refine wpAnyH_take (i := 0) (v := .agg #[.int .i64 n, .slice a1 ss.length c1]) rfl (by kernel_rfl) (by kernel_rfl) (by kernel_rfl) (fun _ _ _ h => h) (.inl ⟨rfl, fun w' hS => by obtain ⟨s1, s2, s3⟩ := hS; go_simp⟩) hS0 ?_
  refine wpAnyH_take (i := 1) (v := .pointer (some ⟨sb, 0, none⟩)) rfl (by kernel_rfl) (by kernel_rfl) (by kernel_rfl) (fun _ _ _ h => h) (.inl ⟨rfl, fun w' hS => by obtain ⟨s1, s2, s3⟩ := hS; go_simp⟩) hS0 ?_
  refine wpAnyH_take (i := 2) (v := .pointer (some ⟨sb, 0, none⟩)) rfl (by kernel_rfl) (by kernel_rfl) (by kernel_rfl) (fun _ _ _ h => h) (.inl ⟨rfl, fun w' hS => by obtain ⟨s1, s2, s3⟩ := hS; go_simp⟩) hS0 ?_
  refine wpAnyH_take (i := 3) (v := .pointer (some ⟨sb, 0, none⟩)) rfl (by kernel_rfl) (by kernel_rfl) (by kernel_rfl) (fun _ _ _ h => h) (.inl ⟨rfl, fun w' hS => by obtain ⟨s1, s2, s3⟩ := hS; go_simp⟩) hS0 ?_
  refine wpAnyH_take (i := 4) (v := .int .i64 wd) rfl (by kernel_rfl) (by kernel_rfl) (by kernel_rfl) (fun _ _ _ h => h) (.inl ⟨rfl, fun w' hS => by obtain ⟨s1, s2, s3⟩ := hS; go_simp⟩) hS0 ?_
  refine wpAnyH_take (i := 5) (v := .agg #[.int .i64 n, .slice a1 ss.length c1, .int .i64 wd, .slice none 0 0]) rfl (by kernel_rfl) (by kernel_rfl) (by kernel_rfl) (fun _ _ _ h => h) (.inl ⟨rfl, fun w' hS => by obtain ⟨s1, s2, s3⟩ := hS; go_simp⟩) hS0 ?_
  refine held_one 6 (by kernel_rfl) (op_value (v := .pointer (some ⟨w1.heap.size + 1, 0, none⟩)) (w' := ((w1.alloc (.cells #[.int .i64 n, .slice a1 ss.length c1] 85)).alloc (.cells #[.int .i64 0, .slice none 0 0, .int .i64 0, .slice none 0 0] 158)).drew) rfl rfl (by go_simp) ⟨hS1 _, ?_⟩)
  refine held_one 7 (by kernel_rfl) (op_skip (w' := ((w1.alloc (.cells #[.int .i64 n, .slice a1 ss.length c1] 85)).alloc (.cells #[.int .i64 n, .slice a1 ss.length c1, .int .i64 wd, .slice none 0 0] 158)).drew) rfl rfl (by go_simp) ⟨hS1 _, wpAnyH_done (by kernel_rfl) ?_ _⟩)
  have K1 := ((Below.refl w1.heap.size w1).alloc (Nat.le_refl _) (.cells #[.int .i64 n, .slice a1 ss.length c1] 85))
  have K2 : Below w1.heap.size w1 ((w1.alloc (.cells #[.int .i64 n, .slice a1 ss.length c1] 85)).alloc (.cells #[.int .i64 n, .slice a1 ss.length c1, .int .i64 wd, .slice none 0 0] 158)).drew := below_drewN (K1.alloc K1.size _) 1
  have N2 : Blk ((w1.alloc (.cells #[.int .i64 n, .slice a1 ss.length c1] 85)).alloc (.cells #[.int .i64 n, .slice a1 ss.length c1, .int .i64 wd, .slice none 0 0] 158)).drew (w1.heap.size + 1) 158 #[.int .i64 n, .slice a1 ss.length c1, .int .i64 wd, .slice none 0 0] := by
    have := Blk.new (w1.alloc (.cells #[.int .i64 n, .slice a1 ss.length c1] 85)) 158 #[.int .i64 n, .slice a1 ss.length c1, .int .i64 wd, .slice none 0 0]
    rw [World.size_alloc] at this
    exact this
  have L3 : LBox ((w1.alloc (.cells #[.int .i64 n, .slice a1 ss.length c1] 85)).alloc (.cells #[.int .i64 n, .slice a1 ss.length c1, .int .i64 wd, .slice none 0 0] 158)).drew w1.heap.size n (.slice a1 ss.length c1) := by
    have L1 : LBox (w1.alloc (.cells #[.int .i64 n, .slice a1 ss.length c1] 85)) w1.heap.size n (.slice a1 ss.length c1) := World.alloc_heap_new w1 _
    exact L1.below (below_drewN ((Below.refl _ (w1.alloc (.cells #[.int .i64 n, .slice a1 ss.length c1] 85))).alloc (Nat.le_refl _) _) 1)
  have hz : ((w1.alloc (.cells #[.int .i64 n, .slice a1 ss.length c1] 85)).alloc (.cells #[.int .i64 n, .slice a1 ss.length c1, .int .i64 wd, .slice none 0 0] 158)).drew.heap.size = w1.heap.size + 2 := by
    show ((w1.alloc (.cells #[.int .i64 n, .slice a1 ss.length c1] 85)).alloc (.cells #[.int .i64 n, .slice a1 ss.length c1, .int .i64 wd, .slice none 0 0] 158)).heap.size = _
    rw [World.size_alloc, World.size_alloc]
  obtain ⟨w3, hw3⟩ : ∃ w3, w3 = ((w1.alloc (.cells #[.int .i64 n, .slice a1 ss.length c1] 85)).alloc (.cells #[.int .i64 n, .slice a1 ss.length c1, .int .i64 wd, .slice none 0 0] 158)).drew := ⟨_, rfl⟩
  rw [← hw3] at K2 N2 L3 hz
  have l1 := L3.c1
  have HK2 := hid K2
  have HN2 := hid N2
  have HZ : Hid (w3.heap.size = w1.heap.size + 2) := hz
  clear hS0 hS1 K1 K2 N2 L3 hz
  go_simp
  simp only [← hw3]
  clear hw3
  go_wp2_with fail
  clear l1
  go_loopw [31] (fun i' wr => ∃ (k : Nat) (vs : List Value) (vp : Value), k ≤ ss.length ∧ i' = .int .i64 k ∧ PartsOf wd its ss k vs ∧ wr.ownsRow (w1.heap.size + 2) 64 1 vp k vs ∧ Blk wr (w1.heap.size + 1) 158 #[.int .i64 n, .slice a1 ss.length c1, .int .i64 wd, vp] ∧ Below w1.heap.size w1 wr ∧ w1.heap.size + 2 ≤ wr.heap.size) (fun i' _ => ss.length - (intOf i').toNat)
  case atStart => exact ⟨0, [], .slice none 0 0, Nat.zero_le _, rfl, ⟨rfl, fun j hj => absurd hj (by omega)⟩, ⟨rfl, .inl ⟨rfl, rfl⟩⟩, HN2.out, HK2.out, Nat.le_of_eq HZ.out.symm⟩
  case round =>
    obtain ⟨k, vs, vp, hk, rfl, hpo, hrow, hblk, hbel, hsz⟩ := hrel
    obtain ⟨ap, cp, rfl⟩ := parts_form hrow
    have HPO := hid hpo
    by_cases hlt : k < ss.length
    case neg =>
      obtain rfl : k = ss.length := by omega
      have r0 : wr.cell? ⟨w1.heap.size + 1, 0, none⟩ = some (.int .i64 n) := hblk.cell 0
      have r1 : wr.cell? ⟨w1.heap.size + 1, 1, none⟩ = some (.slice a1 ss.length c1) := hblk.cell 1
      have r2 : wr.cell? ⟨w1.heap.size + 1, 2, none⟩ = some (.int .i64 wd) := hblk.cell 2
      have r3 : wr.cell? ⟨w1.heap.size + 1, 3, none⟩ = some (.slice ap ss.length cp) := hblk.cell 3
      have HR := hid hrow
      have HRD := hid ((Reads.of_row HROW.out).below hbel)
      have HB := hid (HB1.out.trans (hbel.mono hws))
      clear hpo hrow hblk hbel hsz
      go_wp2
      go_ret
      exact .inr ⟨n, ss, vs, _, _, _, rfl, HUL.out, HRD.out, HR.out, HPO.out, HB.out⟩
    obtain ⟨ac', cc', e', hcp⟩ := ((Reads.of_row HROW.out).below hbel).form
    cases e'
    obtain ⟨b0, o0, rfl, hpb, hpc⟩ := hcp k hlt
    have hpt : wr.cell? ⟨b0, o0 + k, none⟩ = some (.string (tv ss k)) := hpc
    have hps := HSS.out k hlt
    have HADD := hid fun t b hp => hpo.add t b hp
    have D0 : Below wr.heap.size wr wr.drew := below_drewN (Below.refl _ _) 1
    have Bw := HB1.out.trans (hbel.mono hws)
    have Bd := Bw.trans (D0.mono Bw.size)
    have HCALL := hid (HPU.out wr.drew (HBX.out.below Bd) (HMP.out.kept (grown_of_below Bd) (by simp)) (tv ss k) hps)
    have HBL := hid hbel
    have HRW := hid hrow
    have HBK := hid hblk
    generalize tv ss k = x at hpt hps HADD HCALL
    have hc3 : wr.drew.cell? ⟨w1.heap.size + 1, 3, none⟩ = some (.slice ap k cp) := hblk.cell 3
    have hec := enters_of Tryz.func106 (by kernel_rfl) rfl
    clear hcp hpc hpb hpo hrow hblk hbel Bw Bd
    go_wp2_with fail
    clear hpt
    refine wp_region_held (S := fun _ => True) (by kernel_rfl) ?_
    change wpAnyH _ _ _ _ _ _ _ _ (World.drew _)
    refine wpAnyH_take (i := 0) (v := .pointer (some ⟨w1.heap.size + 1, 3, none⟩)) rfl (by kernel_rfl) (by kernel_rfl) (by kernel_rfl) (fun _ _ _ h => h) (.inl ⟨rfl, fun w' _ => by go_simp⟩) trivial ?_
    refine wpAnyH_take (i := 2) (v := .pointer (some ⟨sb, 0, none⟩)) rfl (by kernel_rfl) (by kernel_rfl) (by kernel_rfl) (fun _ _ _ h => h) (.inl ⟨rfl, fun w' _ => by go_simp⟩) trivial ?_
    refine wpAnyH_take (i := 3) (v := .string x) rfl (by kernel_rfl) (by kernel_rfl) (by kernel_rfl) (fun _ _ _ h => h) (.inl ⟨rfl, fun w' _ => by go_simp⟩) trivial ?_
    refine held_two 1 4 (by kernel_rfl) ?A ?B
    case A =>
      refine op_value (v := .slice ap k cp) (w' := wr.drew) rfl rfl (by go_simp) ⟨trivial, ?_⟩
      refine held_one 4 (by kernel_rfl) (op_calls (f := 106) (args := #[.pointer (some ⟨sb, 0, none⟩), .string x]) rfl rfl (by go_simp) HCALL.out ?_)
      rintro e w5 ⟨t, b, rfl, hp5, hb5⟩
      have hb5' : Below wr.heap.size wr w5 := ⟨hb5.os, hb5.tape, hb5.output, hb5.size, hb5.block⟩
      have hs5 := hb5'.size
      have HPA := hid (HADD.out t b hp5)
      have R5 := (part_below HRW.out hb5').alloc (.cells #[.iface 153 (.agg #[.string x, .string t, .bool b])] 64)
      have K5 := (HBK.out.below hb5').alloc (.cells #[.iface 153 (.agg #[.string x, .string t, .bool b])] 64)
      have c5 : w5.cell? ⟨w1.heap.size + 1, 3, none⟩ = some (.slice ap k cp) := (HBK.out.below hb5').cell 3
      have c6 : (w5.alloc (.cells #[.iface 153 (.agg #[.string x, .string t, .bool b])] 64)).cell? ⟨w1.heap.size + 1, 3, none⟩ = some (.slice ap k cp) := K5.cell 3
      have B5 := (HBL.out.trans (hb5'.mono HBL.out.size)).alloc (by omega) (.cells #[.iface 153 (.agg #[.string x, .string t, .bool b])] 64)
      have s6 : (w5.alloc (.cells #[.iface 153 (.agg #[.string x, .string t, .bool b])] 64)).heap.size = w5.heap.size + 1 := World.size_alloc _ _
      have NEW := fun j u (h : [.iface 153 (.agg #[.string x, .string t, .bool b])][j]? = some u) => cell_one_new w5 (.iface 153 (.agg #[.string x, .string t, .bool b])) 64 j u h
      refine ⟨_, rfl, trivial, ?_⟩
      refine wpAnyH_take (i := 5) (v := .iface 153 (.agg #[.string x, .string t, .bool b])) rfl (by kernel_rfl) (by kernel_rfl) (by kernel_rfl) (fun _ _ _ h => h) (.inl ⟨rfl, fun w' _ => by go_simp⟩) trivial ?_
      refine held_one 6 (by kernel_rfl) (op_value (v := .slice (some ⟨w5.heap.size, 0, none⟩) 1 1) (w' := w5.alloc (.cells #[.iface 153 (.agg #[.string x, .string t, .bool b])] 64)) rfl rfl (by go_simp) ⟨trivial, ?_⟩)
      refine held_one 7 (by kernel_rfl) (op_wp rfl rfl (wp_append_part (.tmp 36) (.tmp 41) rfl (w1.heap.size + 2) (.slice ap k cp) k vs (by go_simp) R5 ⟨w5.heap.size, 0, none⟩ 1 1 [.iface 153 (.agg #[.string x, .string t, .bool b])] (by go_simp) rfl NEW (by simp [Value.oneCell']) (by omega) (by omega) ?_))
      intro v7 w7 o7 b7 g7
      refine ⟨trivial, ?_⟩
      have K7 := K5.kept g7 (fun e => by have := (R5.lt _ e.symm).1; omega)
      have B7 := B5.grown g7 (by omega) (fun g e => by have := (R5.lt g e).1; omega)
      have hs7 := g7.size
      obtain ⟨a7, c7, rfl⟩ := parts_form o7
      have x7 : w7.cell? ⟨w1.heap.size + 1, 3, none⟩ = some (.slice ap k cp) := K7.cell 3
      have f7 := K7.fz 3
      have g8 := grownBy_setCellAt w7 (w1.heap.size + 1) 3 (.slice a7 (k + 1) c7)
      have K8 : Hid (Blk (w7.setCell ⟨w1.heap.size + 1, 3, none⟩ (.slice a7 (k + 1) c7)) (w1.heap.size + 1) 158 #[.int .i64 n, .slice (some ⟨b0, o0, none⟩) ss.length c1, .int .i64 wd, .slice a7 (k + 1) c7]) := K7.set 3 (.slice a7 (k + 1) c7)
      have O8 := hid (row_kept o7 g8 (by omega))
      have B8 := hid (B7.grown g8 (by omega) (fun g e => by cases e; omega))
      have Z8 : Hid (w1.heap.size + 2 ≤ (w7.setCell ⟨w1.heap.size + 1, 3, none⟩ (.slice a7 (k + 1) c7)).heap.size) := Nat.le_trans (by omega) g8.size
      refine wpAnyH_take (i := 8) (v := .pointer (some ⟨w1.heap.size + 1, 3, none⟩)) rfl (by kernel_rfl) (by kernel_rfl) (by kernel_rfl) (fun _ _ _ h => h) (.inl ⟨rfl, fun w' _ => by go_simp⟩) trivial ?_
      refine held_one 9 (by kernel_rfl) (op_skip (w' := w7.setCell ⟨w1.heap.size + 1, 3, none⟩ (.slice a7 (k + 1) c7)) rfl rfl (by go_simp) ⟨trivial, wpAnyH_done (by kernel_rfl) ?_ _⟩)
      clear hc3 hb5 hb5' hs5 R5 K5 c5 c6 B5 s6 NEW o7 b7 g7 K7 B7 hs7 x7 f7 g8 hp5 D0
      go_simp
      go_wp2
      exact ⟨⟨k + 1, _, _, by omega, by go_num, HPA.out, O8.out, K8.out, B8.out, Z8.out⟩, by simp [intOf]; omega⟩
    case B =>
      refine op_calls (f := 106) (args := #[.pointer (some ⟨sb, 0, none⟩), .string x]) rfl rfl (by go_simp) HCALL.out ?_
      rintro e w5 ⟨t, b, rfl, hp5, hb5⟩
      have hb5' : Below wr.heap.size wr w5 := ⟨hb5.os, hb5.tape, hb5.output, hb5.size, hb5.block⟩
      have hs5 := hb5'.size
      have HPA := hid (HADD.out t b hp5)
      have R5 := (part_below HRW.out hb5').alloc (.cells #[.iface 153 (.agg #[.string x, .string t, .bool b])] 64)
      have K5 := (HBK.out.below hb5').alloc (.cells #[.iface 153 (.agg #[.string x, .string t, .bool b])] 64)
      have c5 : w5.cell? ⟨w1.heap.size + 1, 3, none⟩ = some (.slice ap k cp) := (HBK.out.below hb5').cell 3
      have c6 : (w5.alloc (.cells #[.iface 153 (.agg #[.string x, .string t, .bool b])] 64)).cell? ⟨w1.heap.size + 1, 3, none⟩ = some (.slice ap k cp) := K5.cell 3
      have B5 := (HBL.out.trans (hb5'.mono HBL.out.size)).alloc (by omega) (.cells #[.iface 153 (.agg #[.string x, .string t, .bool b])] 64)
      have s6 : (w5.alloc (.cells #[.iface 153 (.agg #[.string x, .string t, .bool b])] 64)).heap.size = w5.heap.size + 1 := World.size_alloc _ _
      have NEW := fun j u (h : [.iface 153 (.agg #[.string x, .string t, .bool b])][j]? = some u) => cell_one_new w5 (.iface 153 (.agg #[.string x, .string t, .bool b])) 64 j u h
      refine ⟨_, rfl, trivial, ?_⟩
      refine wpAnyH_take (i := 5) (v := .iface 153 (.agg #[.string x, .string t, .bool b])) rfl (by kernel_rfl) (by kernel_rfl) (by kernel_rfl) (fun _ _ _ h => h) (.inl ⟨rfl, fun w' _ => by go_simp⟩) trivial ?_
      refine held_two 1 6 (by kernel_rfl) ?C ?D
      case C =>
        refine op_value (v := .slice ap k cp) (w' := w5) rfl rfl (by go_simp) ⟨trivial, ?_⟩
        refine held_one 6 (by kernel_rfl) (op_value (v := .slice (some ⟨w5.heap.size, 0, none⟩) 1 1) (w' := w5.alloc (.cells #[.iface 153 (.agg #[.string x, .string t, .bool b])] 64)) rfl rfl (by go_simp) ⟨trivial, ?_⟩)
        refine held_one 7 (by kernel_rfl) (op_wp rfl rfl (wp_append_part (.tmp 36) (.tmp 41) rfl (w1.heap.size + 2) (.slice ap k cp) k vs (by go_simp) R5 ⟨w5.heap.size, 0, none⟩ 1 1 [.iface 153 (.agg #[.string x, .string t, .bool b])] (by go_simp) rfl NEW (by simp [Value.oneCell']) (by omega) (by omega) ?_))
        intro v7 w7 o7 b7 g7
        refine ⟨trivial, ?_⟩
        have K7 := K5.kept g7 (fun e => by have := (R5.lt _ e.symm).1; omega)
        have B7 := B5.grown g7 (by omega) (fun g e => by have := (R5.lt g e).1; omega)
        have hs7 := g7.size
        obtain ⟨a7, c7, rfl⟩ := parts_form o7
        have x7 : w7.cell? ⟨w1.heap.size + 1, 3, none⟩ = some (.slice ap k cp) := K7.cell 3
        have f7 := K7.fz 3
        have g8 := grownBy_setCellAt w7 (w1.heap.size + 1) 3 (.slice a7 (k + 1) c7)
        have K8 : Hid (Blk (w7.setCell ⟨w1.heap.size + 1, 3, none⟩ (.slice a7 (k + 1) c7)) (w1.heap.size + 1) 158 #[.int .i64 n, .slice (some ⟨b0, o0, none⟩) ss.length c1, .int .i64 wd, .slice a7 (k + 1) c7]) := K7.set 3 (.slice a7 (k + 1) c7)
        have O8 := hid (row_kept o7 g8 (by omega))
        have B8 := hid (B7.grown g8 (by omega) (fun g e => by cases e; omega))
        have Z8 : Hid (w1.heap.size + 2 ≤ (w7.setCell ⟨w1.heap.size + 1, 3, none⟩ (.slice a7 (k + 1) c7)).heap.size) := Nat.le_trans (by omega) g8.size
        refine wpAnyH_take (i := 8) (v := .pointer (some ⟨w1.heap.size + 1, 3, none⟩)) rfl (by kernel_rfl) (by kernel_rfl) (by kernel_rfl) (fun _ _ _ h => h) (.inl ⟨rfl, fun w' _ => by go_simp⟩) trivial ?_
        refine held_one 9 (by kernel_rfl) (op_skip (w' := w7.setCell ⟨w1.heap.size + 1, 3, none⟩ (.slice a7 (k + 1) c7)) rfl rfl (by go_simp) ⟨trivial, wpAnyH_done (by kernel_rfl) ?_ _⟩)
        clear hc3 hb5 hb5' hs5 R5 K5 c5 c6 B5 s6 NEW o7 b7 g7 K7 B7 hs7 x7 f7 g8 hp5 D0
        go_simp
        go_wp2
        exact ⟨⟨k + 1, _, _, by omega, by go_num, HPA.out, O8.out, K8.out, B8.out, Z8.out⟩, by simp [intOf]; omega⟩
      case D =>
        refine op_value (v := .slice (some ⟨w5.heap.size, 0, none⟩) 1 1) (w' := w5.alloc (.cells #[.iface 153 (.agg #[.string x, .string t, .bool b])] 64)) rfl rfl (by go_simp) ⟨trivial, ?_⟩
        refine held_one 1 (by kernel_rfl) (op_value (v := .slice ap k cp) (w' := w5.alloc (.cells #[.iface 153 (.agg #[.string x, .string t, .bool b])] 64)) rfl rfl (by go_simp) ⟨trivial, ?_⟩)
        refine held_one 7 (by kernel_rfl) (op_wp rfl rfl (wp_append_part (.tmp 36) (.tmp 41) rfl (w1.heap.size + 2) (.slice ap k cp) k vs (by go_simp) R5 ⟨w5.heap.size, 0, none⟩ 1 1 [.iface 153 (.agg #[.string x, .string t, .bool b])] (by go_simp) rfl NEW (by simp [Value.oneCell']) (by omega) (by omega) ?_))
        intro v7 w7 o7 b7 g7
        refine ⟨trivial, ?_⟩
        have K7 := K5.kept g7 (fun e => by have := (R5.lt _ e.symm).1; omega)
        have B7 := B5.grown g7 (by omega) (fun g e => by have := (R5.lt g e).1; omega)
        have hs7 := g7.size
        obtain ⟨a7, c7, rfl⟩ := parts_form o7
        have x7 : w7.cell? ⟨w1.heap.size + 1, 3, none⟩ = some (.slice ap k cp) := K7.cell 3
        have f7 := K7.fz 3
        have g8 := grownBy_setCellAt w7 (w1.heap.size + 1) 3 (.slice a7 (k + 1) c7)
        have K8 : Hid (Blk (w7.setCell ⟨w1.heap.size + 1, 3, none⟩ (.slice a7 (k + 1) c7)) (w1.heap.size + 1) 158 #[.int .i64 n, .slice (some ⟨b0, o0, none⟩) ss.length c1, .int .i64 wd, .slice a7 (k + 1) c7]) := K7.set 3 (.slice a7 (k + 1) c7)
        have O8 := hid (row_kept o7 g8 (by omega))
        have B8 := hid (B7.grown g8 (by omega) (fun g e => by cases e; omega))
        have Z8 : Hid (w1.heap.size + 2 ≤ (w7.setCell ⟨w1.heap.size + 1, 3, none⟩ (.slice a7 (k + 1) c7)).heap.size) := Nat.le_trans (by omega) g8.size
        refine wpAnyH_take (i := 8) (v := .pointer (some ⟨w1.heap.size + 1, 3, none⟩)) rfl (by kernel_rfl) (by kernel_rfl) (by kernel_rfl) (fun _ _ _ h => h) (.inl ⟨rfl, fun w' _ => by go_simp⟩) trivial ?_
        refine held_one 9 (by kernel_rfl) (op_skip (w' := w7.setCell ⟨w1.heap.size + 1, 3, none⟩ (.slice a7 (k + 1) c7)) rfl rfl (by go_simp) ⟨trivial, wpAnyH_done (by kernel_rfl) ?_ _⟩)
        clear hc3 hb5 hb5' hs5 R5 K5 c5 c6 B5 s6 NEW o7 b7 g7 K7 B7 hs7 x7 f7 g8 hp5 D0
        go_simp
        go_wp2
        exact ⟨⟨k + 1, _, _, by omega, by go_num, HPA.out, O8.out, K8.out, B8.out, Z8.out⟩, by simp [intOf]; omega⟩
end Go.Proofs.YtiipaeieofbdpaaGreatDoor
/- (wholeList).built and impl.Load. -/
namespace Go.Proofs.YtiipaeieofbdpaaGreatDoor
open Go.RowKit
theorem invokeOne (x : Value) (W : World) : (callMethod (.iface 153 x) "loop.example/kilnpass/impl.built" #[]).run Tryz.prog W = .ok (.enter 256 #[x]) W := by kernel_rfl
theorem invokeWhole (x : Value) (W : World) : (callMethod (.iface 158 x) "loop.example/kilnpass/impl.built" #[]).run Tryz.prog W = .ok (.enter 258 #[x]) W := by kernel_rfl
/-- What a list with its pieces is built to. -/
def BuiltR (wd : Int) (its : Itms) (n : Int) (ss : List ByteArray) (r : Value) : Prop :=
  (∃ i, i < ss.length ∧ Absent wd its (tv ss i) ∧ r = .tuple #[.string ⟨#[]⟩, .bool false]) ∨ (∃ ps : List ByteArray, ps.length = ss.length ∧ (∀ i, i < ss.length → Found wd its (tv ss i) (tv ps i)) ∧ r = buildR n ss ps wd)
theorem BuiltR.load {wd : Int} {its : Itms} {name : ByteArray} {n : Int} {ss : List ByteArray} {r : Value} (hul : UL wd its name n ss true) (h : BuiltR wd its n ss r) : LoadR wd its name r := by
  rcases h with ⟨i, hi, ha, rfl⟩ | ⟨ps, hl, hf, rfl⟩
  · exact .lacks n ss hul i hi ha
  · exact .build n ss ps hul hl hf
set_option maxRecDepth 100000 in
set_option maxHeartbeats 4000000 in
theorem wholeBuilt_any (wd : Int) (its : Itms) (n : Int) (vl vp : Value) (ss : List ByteArray) (vs : List Value) (B : Nat) (w : World) (hl : Reads w vl ss) (hrow : w.ownsRow B 64 1 vp ss.length vs) (hpo : PartsOf wd its ss ss.length vs) (hfew : ss.length ≤ 1048576) (hss : ∀ i, (tv ss i).size ≤ 1048576) (hsi : ∀ i, (itx its i).size ≤ 1048576) :
    Calls Tryz.prog 258 #[.agg #[.int .i64 n, vl, .int .i64 wd, vp]] w fun e w' => ∃ r, e = .returned r ∧ BuiltR wd its n ss r ∧ Below w.heap.size w w' := by
  obtain ⟨i0, hi0, hz0, hz1, hz2⟩ := info_parts Tryz.info9
  obtain ⟨al, cl, rfl, _⟩ := hl.form
  obtain ⟨ap, cp, rfl⟩ := parts_form hrow
  have hA := (Below.refl w.heap.size w).alloc (Nat.le_refl _) (.cells #[.int .i64 n, .slice al ss.length cl, .int .i64 wd, .slice ap ss.length cp] 158)
  have HN0 := hid (Blk.new w 158 #[.int .i64 n, .slice al ss.length cl, .int .i64 wd, .slice ap ss.length cp])
  have HL := hid (hl.below hA)
  have HR := hid (part_below hrow hA)
  have HPO := hid hpo
  have HSS := hid hss
  have HSI := hid hsi
  have HA := hid hA
  clear hl hrow hpo hss hsi hA
  go_enter Tryz.func258, Tryz.ntmps258
  go_wp2_with fail
  go_loopw [4, 12] (fun v i' wr => ∃ (k : Nat) (ps : List ByteArray), k ≤ ss.length ∧ i' = .int .i64 k ∧ ps.length = k ∧ (∀ j, j < k → Found wd its (tv ss j) (tv ps j)) ∧ wr.ownsRow (w.heap.size + 1) 9 1 v k (ps.map Value.string) ∧ Below (w.heap.size + 1) (w.alloc (.cells #[.int .i64 n, .slice al ss.length cl, .int .i64 wd, .slice ap ss.length cp] 158)) wr) (fun _ i' _ => ss.length - (intOf i').toNat)
  case atStart => exact ⟨0, [], Nat.zero_le _, rfl, rfl, fun j hj => absurd hj (by omega), ⟨rfl, .inl ⟨rfl, rfl⟩⟩, Below.refl _ _⟩
  case round =>
    obtain ⟨k, ps, hk, rfl, hpl, hfd, hown, hbl⟩ := hrel
    have hbl' : Below (w.alloc (.cells #[.int .i64 n, .slice al ss.length cl, .int .i64 wd, .slice ap ss.length cp] 158)).heap.size (w.alloc (.cells #[.int .i64 n, .slice al ss.length cl, .int .i64 wd, .slice ap ss.length cp] 158)) wr := by rw [World.size_alloc]; exact hbl
    have N1 := HN0.out.below hbl'
    have HBR := hid (HA.out.trans (hbl.mono (Nat.le_succ _)))
    have hsr := hbl.size
    rw [World.size_alloc] at hsr
    have HFD := hid hfd
    have HBL := hid hbl
    have HOW := hid hown
    obtain ⟨av, cv, rfl, _⟩ := row_form hown
    by_cases hlt : k < ss.length
    case neg =>
      obtain rfl : k = ss.length := by omega
      have x0 : wr.cell? ⟨w.heap.size, 0, none⟩ = some (.int .i64 n) := N1.cell 0
      have x1 : wr.cell? ⟨w.heap.size, 1, none⟩ = some (.slice al ss.length cl) := N1.cell 1
      have x2 : wr.cell? ⟨w.heap.size, 2, none⟩ = some (.int .i64 wd) := N1.cell 2
      have hr2 : Reads wr (.slice av ss.length cv) ps := Reads.of_row (base := w.heap.size + 1) (by rw [hpl]; exact hown)
      have hpz : ∀ i, (tv ps i).size ≤ 1048576 := fun i => by
        by_cases hi : i < ps.length
        · obtain ⟨j, _, _, e⟩ := HFD.out i (by omega)
          rw [e]
          exact HSI.out j
        · unfold tv
          rw [List.getD_eq_getElem?_getD, List.getElem?_eq_none (by omega)]
          show (0 : Nat) ≤ 1048576
          omega
      have HBD := hid (implBuild_any n (.slice al ss.length cl) (.slice av ss.length cv) ss ps wd wr (HL.out.below hbl') hr2 (by unfold maxLen; omega) (by unfold maxLen; omega) (fun i => by have := HSS.out i; unfold tv at this; unfold maxLen; omega) (fun i => by have := hpz i; unfold tv at this; unfold maxLen; omega))
      have HLR : Hid (BuiltR wd its n ss (buildR n ss ps wd)) := .inr ⟨ps, hpl, HFD.out, rfl⟩
      obtain ⟨xb, bb, hform⟩ := build_form n ss ps wd
      rw [hform] at HBD HLR
      clear hfd hown hbl hbl' N1 hr2 hpz hform
      go_wp2_with fail
      refine HBD.out.mono ?_
      rintro e w2 ⟨rfl, hb2⟩
      have HB2 := hid (HBR.out.trans (hb2.mono HBR.out.size))
      clear hb2
      go_wp2
      go_ret2
      exact ⟨_, rfl, HLR.out, HB2.out⟩
    obtain ⟨t, b, hvk, hpc⟩ := HPO.out.2 k hlt
    have HRR := hid (part_below HR.out hbl')
    obtain ⟨g, e', hgl, hcell⟩ : ∃ g, ap = some ⟨g, 0, none⟩ ∧ g < wr.heap.size ∧ wr.cell? ⟨g, k, none⟩ = some (partV (tv ss k) t b) := by
      have hl2 := HRR.out.lt
      rcases id HRR.out with ⟨_, ⟨e1, e2⟩ | ⟨g, cap, cur, e1, _⟩⟩
      · omega
      · have ea : ap = some ⟨g, 0, none⟩ := (Value.slice.inj e1).1
        subst ea
        have hc := HRR.out.cellAt k (by omega)
        exact ⟨g, rfl, (hl2 g rfl).2, by rw [hc, hvk]⟩
    subst e'
    have HABS : Hid (b = false → BuiltR wd its n ss (.tuple #[.string ⟨#[]⟩, .bool false])) := fun h => .inl ⟨k, hlt, by
      rcases hpc with ⟨h1, _⟩ | ⟨_, h1, _⟩
      · rw [h1] at h; cases h
      · exact h1, rfl⟩
    have HNX : Hid (b = true → ∀ j, j < k + 1 → Found wd its (tv ss j) (tv (ps ++ [t]) j)) := fun h j hj => by
      have hf : Found wd its (tv ss k) t := by
        rcases hpc with ⟨_, h1⟩ | ⟨h1, _⟩
        · exact h1
        · rw [h1] at h; cases h
      rcases Nat.lt_or_eq_of_le (Nat.le_of_lt_succ hj) with h1 | h1
      · have e : tv (ps ++ [t]) j = tv ps j := by unfold tv; rw [List.getD_eq_getElem?_getD, List.getElem?_append_left (by omega), ← List.getD_eq_getElem?_getD]
        rw [e]
        exact HFD.out j h1
      · subst h1
        have e : tv (ps ++ [t]) j = t := by unfold tv; rw [← hpl]; simp
        rw [e]
        exact hf
    generalize tv ss k = x at hcell
    have HON := hid (oneBuilt_any x t b wr)
    have hin := fun W => invokeOne (.agg #[.string x, .string t, .bool b]) W
    clear hfd hown hbl hbl' N1 hvk hpc hgl
    go_wp2_with fail
    refine HON.out.mono ?_
    rintro e w3 ⟨rfl, hb3⟩
    have hrow3 := part_below HOW.out hb3
    have D3 := HBL.out.trans (hb3.mono hsr)
    have HB3 := hid (HBR.out.trans (hb3.mono HBR.out.size))
    have hs3 := hb3.size
    have HD3 := hid D3
    clear hb3 D3 hcell hin
    cases b with
    | false =>
      have HF := hid (HABS.out rfl)
      clear hrow3
      go_wp2
      go_ret2
      exact ⟨_, rfl, HF.out, HB3.out⟩
    | true =>
      have HFN := hid (HNX.out rfl)
      go_wp2_with (at_builtin; refine wpList_append_own _ rfl _ _ 23 rfl (w.heap.size + 1) 9 i0 (.string ⟨#[]⟩) 1 16 Tryz.underlying23 hi0 hz0 hz1 hz2 rfl (by decide) _ _ _ rfl (hrow3.alloc _) ⟨_, 0, none⟩ 1 1 [.string t] rfl rfl (cell_one_new _ _ _) (by simp [Value.oneCell']) (by unfold maxLen; omega) (by omega) (by simp; omega) ?_; intro v' w6 hown' hgrow _; obtain ⟨a6, c6, rfl, _⟩ := row_form hown')
      have hD6 := (HD3.out.alloc (by omega) (.cells #[.string t] 9)).grown hgrow (by simp; omega) (fun g e => (hrow3.lt g e).1)
      exact ⟨⟨k + 1, ps ++ [t], by omega, by go_num, by simp [hpl], HFN.out, by simpa using hown', hD6⟩, by simp [intOf]; omega⟩
end Go.Proofs.YtiipaeieofbdpaaGreatDoor
