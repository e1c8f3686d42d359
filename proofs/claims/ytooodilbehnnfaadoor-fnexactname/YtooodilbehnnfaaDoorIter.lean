/- impl.eachPiece: the iterator over a text's pieces. -/
import Derived.Test.YtooodilbehnnfaaDoorRingA
import Derived.Test.YtooodilbehnnfaaDoorRange
namespace Go.Proofs.YtooodilbehnnfaaDoor
open Go.RowKit
attribute [local go_sem] Oper.semAt_some
theorem cell_of_heap {w : World} {b : Nat} {A : Array Value} {t : TypeId} (h : w.heap[b]? = some (.cells A t (0, 0))) (i : Nat) : w.cell? ⟨b, i, none⟩ = A[i]? := by
  simp [World.cell?, h]
theorem frozen_of_heap {w : World} {b : Nat} {A : Array Value} {t : TypeId} (h : w.heap[b]? = some (.cells A t (0, 0))) (i : Nat) : w.frozen? ⟨b, i, none⟩ = false := by
  simp [World.frozen?, h]
theorem add_ring (s : ByteArray) (k b : Nat) (w : World) (h : w.heap[b]? = some (.cells (ringA s k) 83 (0, 0))) :
    Calls Tryd.prog 53 #[.pointer (some ⟨b, 0, none⟩), .int .u8 (byteAt s k)] w fun e w' => e = .returned (.tuple #[]) ∧ w.grownBy w' (some b) ∧ w'.heap[b]? = some (.cells (ringA s (k + 1)) 83 (0, 0)) := by
  refine (add_any b (k % 8) (byteAt s k) (ringZ s k (k % 8)) w (by omega) ?_ ?_ (frozen_of_heap h _) (frozen_of_heap h _)).mono ?_
  · rw [cell_of_heap h, ringA_last]
  · rw [cell_of_heap h, ringA_get s k _ (by omega)]
  · rintro e w' ⟨rfl, n, rfl⟩
    have h1 := heap_setCell_same w b (k % 8) _ _ (.int .u8 (byteAt s k)) h
    have h2 := heap_setCell_same _ b 8 _ _ (.int .i64 ((((k % 8) + 1) % 8 : Nat) : Int)) h1
    rw [ringA_succ] at h2
    refine ⟨rfl, ⟨rfl, rfl, rfl, ?_, fun j hj hne => ?_⟩, h2⟩
    · show w.heap.size ≤ ((w.setCell _ _).setCell _ _).heap.size
      simp
    · have hj' : j ≠ b := fun e => hne (by rw [e])
      show ((w.setCell _ _).setCell _ _).heap[j]? = _
      rw [heap_setCell_other _ _ _ _ hj', heap_setCell_other _ _ _ _ hj']
theorem isCut_ring (s : ByteArray) (f k b : Nat) (w : World) (hf : f ≤ k) (hk : k ≤ s.size) (h : w.heap[b]? = some (.cells (ringA s k) 83 (0, 0))) :
    Calls Tryd.prog 54 #[.int .i64 ((k - f : Nat) : Int), .pointer (some ⟨b, 0, none⟩)] w fun e w' => e = .returned (.bool (endsB (s.extract f k))) ∧ ∃ m, w' = w.drewN m := by
  have := isCut_any ((k - f : Nat) : Int) b (k % 8) (ringZ s k) w (by omega) (by rw [cell_of_heap h, ringA_last]) (fun t ht => by rw [cell_of_heap h, ringA_get s k t ht])
  rw [ends_ring s f k hf hk] at this
  exact this
theorem cutTo_grows (s : ByteArray) (k : Nat) : ∀ j, k ≤ j → (cutTo s k).2 <+: (cutTo s j).2
  | 0, h => by
    obtain rfl : k = 0 := by omega
    exact List.prefix_refl _
  | j + 1, h => by
    by_cases e : k = j + 1
    · subst e; exact List.prefix_refl _
    · refine (cutTo_grows s k j (by omega)).trans ?_
      conv => rhs; unfold cutTo
      split
      · exact List.prefix_append _ _
      · exact List.prefix_refl _
/-- What a round must keep: the ring, and the text's box. -/
def KeepP (Bn : Nat) (A B : World) : Prop := (∀ (k : Nat) (c : Array Value), A.heap[k]? = some (.cells c 83 (0, 0)) → B.heap[k]? = some (.cells c 83 (0, 0))) ∧ B.heap[Bn]? = A.heap[Bn]?
theorem KeepP.trans {Bn : Nat} {A B C : World} (h : KeepP Bn A B) (k : KeepP Bn B C) : KeepP Bn A C := ⟨fun i c hc => k.1 i c (h.1 i c hc), k.2.trans h.2⟩
theorem KeepP.put {Bn : Nat} (W : World) (l : Nat) (o o' : Obj) (hl : Bn < l) (h : W.heap[l]? = some o) (ho : o.isCells = false) : KeepP Bn W (W.putObj l o') := by
  refine ⟨fun k c hc => ?_, World.putObj_heap_other (by omega)⟩
  have hne : k ≠ l := fun e => by subst e; rw [h] at hc; cases hc; cases ho
  exact (World.putObj_heap_other hne).trans hc
set_option maxRecDepth 100000 in
set_option maxHeartbeats 400000 in
theorem eachPiece_any (s : ByteArray) (w : World) :
    Calls Tryd.prog 38 #[.string s] w fun e w' => e = .returned (.func (.func 52) #[] #[.pointer (some ⟨w.heap.size, 0, none⟩)]) ∧ w' = w.alloc (.cells #[.string s] 9) := by
  go_enter Tryd.func38, Tryd.ntmps38
  go_wp2
  go_ret
  exact ⟨rfl, rfl⟩
theorem hid {p : Prop} (h : p) : Hid p := h
theorem box_kept {wr w1 : World} {Bn b : Nat} {o : Obj} (hb : wr.heap[Bn]? = some o) (hg : wr.grownBy w1 (some b)) (h : Bn < b) : w1.heap[Bn]? = some o :=
  (hg.block Bn (Array.getElem?_eq_some_iff.1 hb).1 (fun e => by cases e; omega)).trans hb
theorem cell_box {w : World} {b : Nat} {v : Value} {t : TypeId} (h : w.heap[b]? = some (.cells #[v] t (0, 0))) : w.cell? ⟨b, 0, none⟩ = some v := by rw [cell_of_heap h]; rfl
theorem ring_drewN {J : List ByteArray → World → Prop} {B : Nat} {wr w1 : World} {ps : List ByteArray} {A : Array Value} (hJ : AbT 83 B J) (hj : J ps wr) (hg : wr.grownBy w1 (some B)) (hr : wr.heap[B]? = some (.cells A 83 (0, 0))) (m : Nat) : J ps (w1.drewN m) :=
  hJ ps wr _ (some B) hj ⟨hg.os, hg.tape, hg.output, hg.size, hg.block⟩ (fun r e => by cases e; exact ⟨Nat.le_refl _, _, hr⟩)
set_option maxRecDepth 100000 in
set_option maxHeartbeats 1000000 in
theorem iter_seq (s : ByteArray) (Bn : Nat) (w0 : World) (hB : Bn < w0.heap.size) (hs : w0.heap[Bn]? = some (.cells #[.string s] 9 (0, 0))) :
    SeqT Tryd.prog 83 52 #[.pointer (some ⟨Bn, 0, none⟩)] (fun p : ByteArray => #[Value.string p]) (KeepP Bn) (piecesOf s) w0 := by
  intro l J W hW hJ hY h0
  have hBW : W.heap[Bn]? = some (.cells #[.string s] 9 (0, 0)) := (hW.block Bn hB).trans hs
  have hBlt : Bn < W.heap.size := (Array.getElem?_eq_some_iff.1 hBW).1
  have hcell : W.cell? ⟨Bn, 0, none⟩ = some (.string s) := by rw [cell_of_heap hBW]; rfl
  refine callsIn_of_wp Tryd.func52 rfl trivial ?_ rfl
  simp only [Tryd.ntmps52, List.size_toArray, List.length_cons, List.length_nil, Nat.reduceAdd, Nat.reduceSub, Array.replicate_succ, Array.replicate_zero, List.push_toArray, List.append_toArray, List.nil_append, List.cons_append]
  by_cases h3 : 3000 < s.size
  · have e : piecesOf s = [] := by simp [piecesOf, h3]
    rw [e]; clear e
    gi_wp2
    refine bodyPost_ret (results_none rfl _ _ _) rfl ?_
    exact ⟨⟨_, rfl⟩, h0⟩
  · have e : piecesOf s = (cutTo s s.size).2 := by simp [piecesOf, h3]
    rw [e] at hY ⊢; clear e
    gi_wp2
    gi_loopw [4, 5, 6] (fun bg i _ wr => ∃ k : Nat, k ≤ s.size ∧ i = .int .i64 k ∧ bg = .int .i64 ((cutTo s k).1 : Nat) ∧ J (cutTo s k).2 wr ∧ wr.heap[W.heap.size]? = some (.cells (ringA s k) 83 (0, 0)) ∧ wr.heap[Bn]? = some (.cells #[.string s] 9 (0, 0))) (fun _ i _ _ => s.size - (intOf i).toNat)
    case atStart =>
      refine ⟨0, Nat.zero_le _, rfl, rfl, ?_, World.alloc_heap_new W _, (Below.heap_alloc W _ Bn hBlt).trans hBW⟩
      exact hJ [] W _ none h0 (World.grownBy_alloc W _ none) (fun r e => by cases e)
    case round =>
      obtain ⟨k, hk, rfl, rfl, hj, hr, hb⟩ := hrel
      have hc : wr.cell? ⟨Bn, 0, none⟩ = some (.string s) := by rw [cell_of_heap hb]; rfl
      clear hcell
      by_cases hlt : k < s.size
      · have hcl := (cutTo_le s k).1
        have hadd := add_ring s k W.heap.size wr hr
        rw [← byteAt_get s k hlt] at hadd
        have HA := hid hadd
        clear hadd
        have hcut := fun W1 h => isCut_ring s (cutTo s k).1 (k + 1) W.heap.size W1 (by omega) (by omega) h
        cases hend : (endsB (s.extract (cutTo s k).1 (k + 1)) || decide (k + 1 = s.size)) with
        | false =>
          have HN := hid (cutTo_on s k hend)
          simp only [Bool.or_eq_false_iff, decide_eq_false_iff_not] at hend
          rw [hend.1] at hcut
          have HC := hid hcut
          have hlt2 : k + 1 < s.size := by omega
          clear hcut hend hY
          generalize cutTo s k = c at *
          obtain ⟨f, ps⟩ := c
          dsimp only at *
          gi_wp2_with (first | (refine ⟨trivial, rfl, ?_⟩; gi_at_call 53; refine (callsIn_wide.2 HA.out).mono ?_; rintro e w1 ⟨rfl, hg1, hr1⟩; have hb1 := box_kept hb hg1 hBlt; have hc1 := cell_box hb1) | (refine ⟨trivial, rfl, ?_⟩; gi_at_call 54; rw [show ((k : Int) + 1 - (f : Int)) = ((k + 1 - f : Nat) : Int) by omega]; refine (callsIn_wide.2 (HC.out _ hr1)).mono ?_; rintro e w2 ⟨rfl, m, rfl⟩))
          go_roundw
          case rel =>
            refine ⟨k + 1, by omega, by go_num, by rw [HN.out], ?_, hr1, hb1⟩
            rw [HN.out]
            exact ring_drewN hJ hj hg1 hr m
          case measure => simp [intOf]; omega
        | true =>
          have HN := hid (cutTo_cut s k hend)
          have hpre : (cutTo s k).2 ++ [s.extract (cutTo s k).1 (k + 1)] <+: (cutTo s s.size).2 := by
            have := cutTo_grows s (k + 1) s.size (by omega)
            rw [HN.out] at this; exact this
          have HY := hid fun W1 h => hY (cutTo s k).2 (s.extract (cutTo s k).1 (k + 1)) W1 h hpre
          clear hY hpre
          by_cases hlt2 : k + 1 < s.size
          · have he1 : endsB (s.extract (cutTo s k).1 (k + 1)) = true := by
              have : decide (k + 1 = s.size) = false := by simp; omega
              rwa [this, Bool.or_false] at hend
            rw [he1] at hcut
            have HC := hid hcut
            clear hcut hend he1
            generalize cutTo s k = c at *
            obtain ⟨f, ps⟩ := c
            dsimp only at *
            gi_wp2_with (first | (refine ⟨trivial, rfl, ?_⟩; gi_at_call 53; refine (callsIn_wide.2 HA.out).mono ?_; rintro e w1 ⟨rfl, hg1, hr1⟩; have hb1 := box_kept hb hg1 hBlt; have hc1 := cell_box hb1) | (refine ⟨trivial, rfl, ?_⟩; gi_at_call 54; rw [show ((k : Int) + 1 - (f : Int)) = ((k + 1 - f : Nat) : Int) by omega]; refine (callsIn_wide.2 (HC.out _ hr1)).mono ?_; rintro e w2 ⟨rfl, m, rfl⟩; obtain ⟨fn, tmps, assign, body, hy, hR⟩ := HY.out (w1.drewN m) (ring_drewN hJ hj hg1 hr m)))
            refine ⟨rfl, hR.mono ?_⟩
            rintro e w3 ⟨rfl, hj3, hk3⟩
            gi_wp2
            go_roundw
            case rel =>
              refine ⟨k + 1, by omega, by go_num, by rw [HN.out]; go_num, ?_, hk3.1 _ _ hr1, hk3.2.trans hb1⟩
              rw [HN.out]; exact hj3
            case measure => simp [intOf]; omega
          · have hk1 : decide ((k : Int) + 1 < (s.size : Int)) = false := by simp; omega
            clear hcut hend
            generalize cutTo s k = c at *
            obtain ⟨f, ps⟩ := c
            dsimp only at *
            gi_wp2_with (refine ⟨trivial, rfl, ?_⟩; gi_at_call 53; refine (callsIn_wide.2 HA.out).mono ?_; rintro e w1 ⟨rfl, hg1, hr1⟩; have hb1 := box_kept hb hg1 hBlt; have hc1 := cell_box hb1; obtain ⟨fn, tmps, assign, body, hy, hR⟩ := HY.out w1 (ring_drewN hJ hj hg1 hr 0))
            refine ⟨trivial, ?_⟩
            gi_wp2
            refine ⟨rfl, hR.mono ?_⟩
            rintro e w3 ⟨rfl, hj3, hk3⟩
            gi_wp2
            go_roundw
            case rel =>
              refine ⟨k + 1, by omega, by go_num, by rw [HN.out]; go_num, ?_, hk3.1 _ _ hr1, hk3.2.trans hb1⟩
              rw [HN.out]; exact hj3
            case measure => simp [intOf]; omega
      · obtain rfl : k = s.size := by omega
        gi_wp2
        go_end0
        exact ⟨⟨_, rfl⟩, hj⟩
end Go.Proofs.YtooodilbehnnfaaDoor
