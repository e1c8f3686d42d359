/- The map of the peers: how many, and who is under a number. -/
import Derived.Test.YtlnkhbnbcmllaaaGreatHuntMath
import Derived.Maps.OwnSet
namespace Go.Proofs.YtlnkhbnbcmllaaaGreat
open Go.RowKit
theorem mapP_tidy (pbs : List Nat) : ∀ k, Maps.Tidy (mapP pbs k)
  | 0 => Maps.tidy_empty
  | k + 1 => (mapP_tidy pbs k).put (show WideAt.IsKeyLit (.int .i64 ((k + 1 : Nat) : Int)) from trivial) _
theorem mapP_has (pbs : List Nat) (j : Nat) : ∀ k, k < j → Maps.has (mapP pbs k) (.int .i64 (j : Int)) = false
  | 0, _ => rfl
  | k + 1, h => by
    have e : mapP pbs (k + 1) = (mapP pbs k).put (.int .i64 ((k + 1 : Nat) : Int)) (.lit (.int .i64 ((pbs.getD k 0 : Nat) : Int))) := rfl
    rw [e, Maps.has_put_other (k := .int .i64 ((k + 1 : Nat) : Int)) (k' := .int .i64 (j : Int)) (fun e => by injection e; omega)]
    exact mapP_has pbs j k (by omega)
theorem mapP_size (pbs : List Nat) : ∀ k, Maps.size (mapP pbs k) = k
  | 0 => rfl
  | k + 1 => by
    have e : mapP pbs (k + 1) = (mapP pbs k).put (.int .i64 ((k + 1 : Nat) : Int)) (.lit (.int .i64 ((pbs.getD k 0 : Nat) : Int))) := rfl
    rw [e, Maps.size_put (mapP_tidy pbs k), mapP_has pbs (k + 1) k (by omega), mapP_size pbs k]
    rfl
theorem len_peers {w : World} {C pm : Nat} {qs : PV} {pbs : List Nat} (h : PeersAt w C pm qs pbs) (ty : TypeId) : (Builtin.len_ #[94] ty #[.map (some pm)]).run Tryz.prog w = .ok (.int .i64 (qs.length : Int)) w := by
  have := h.map.len Tryz.underlying94 ty
  rw [mapP_size] at this
  exact this
theorem mapP_at (pbs : List Nat) (z : DataW Unit) (j : Nat) (h1 : 1 ≤ j) : ∀ n, j ≤ n → (mapP pbs n).atKey (.int .i64 (j : Int)) z = .lit (.int .i64 ((pbs.getD (j - 1) 0 : Nat) : Int))
  | 0, h => by omega
  | n + 1, h => by
    have e : mapP pbs (n + 1) = (mapP pbs n).put (.int .i64 ((n + 1 : Nat) : Int)) (.lit (.int .i64 ((pbs.getD n 0 : Nat) : Int))) := rfl
    rw [e]
    by_cases hj : j = n + 1
    · subst hj
      rw [Maps.atKey_put_same (mapP_tidy pbs n).isMap (show WideAt.IsKeyLit (.int .i64 ((n + 1 : Nat) : Int)) from trivial)]
      rfl
    · rw [Maps.atKey_put_other (k := .int .i64 ((n + 1 : Nat) : Int)) (k' := .int .i64 (j : Int)) (fun e => by injection e; omega)]
      exact mapP_at pbs z j h1 n (by omega)
theorem mapP_in (pbs : List Nat) (j : Nat) (h1 : 1 ≤ j) : ∀ n, j ≤ n → Maps.has (mapP pbs n) (.int .i64 (j : Int)) = true
  | 0, h => by omega
  | n + 1, h => by
    have e : mapP pbs (n + 1) = (mapP pbs n).put (.int .i64 ((n + 1 : Nat) : Int)) (.lit (.int .i64 ((pbs.getD n 0 : Nat) : Int))) := rfl
    rw [e]
    by_cases hj : j = n + 1
    · subst hj
      exact Maps.has_put_same (mapP_tidy pbs n).isMap (show WideAt.IsKeyLit (.int .i64 ((n + 1 : Nat) : Int)) from trivial) _
    · rw [Maps.has_put_other (k := .int .i64 ((n + 1 : Nat) : Int)) (k' := .int .i64 (j : Int)) (fun e => by injection e; omega)]
      exact mapP_in pbs j h1 n (by omega)
theorem mapP_out (pbs : List Nat) (j : Int) : ∀ n : Nat, ¬ (1 ≤ j ∧ j ≤ (n : Int)) → Maps.has (mapP pbs n) (.int .i64 j) = false
  | 0, _ => rfl
  | n + 1, h => by
    have e : mapP pbs (n + 1) = (mapP pbs n).put (.int .i64 ((n + 1 : Nat) : Int)) (.lit (.int .i64 ((pbs.getD n 0 : Nat) : Int))) := rfl
    rw [e, Maps.has_put_other (k := .int .i64 ((n + 1 : Nat) : Int)) (k' := .int .i64 j) (fun e => by injection e; omega)]
    exact mapP_out pbs j n (by omega)
theorem ptrElem_inv {v : Value} {b : Nat} {ps : List MemPlace} (h : ptrElem v = some (.lit (.int .i64 (b : Int)), ps)) : v = .pointer (some ⟨b, 0, none⟩) := by
  unfold ptrElem at h
  split at h
  · next c =>
    have h1 := (Prod.mk.inj (Option.some.inj h)).1
    injection h1 with h2
    injection h2 with _ h3
    have : c = b := by omega
    rw [this]
  · have h1 := (Prod.mk.inj (Option.some.inj h)).1
    injection h1 with h2
    injection h2 with _ h3
    omega
  · cases h
theorem ptrElem_nil {v : Value} {ps : List MemPlace} (h : ptrElem v = some (.lit (.int .i64 (-1)), ps)) : v = .pointer none := by
  unfold ptrElem at h
  split at h
  · next c =>
    have h1 := (Prod.mk.inj (Option.some.inj h)).1
    injection h1 with h2
    injection h2 with _ h3
    omega
  · rfl
  · cases h
theorem zvPeer (w : World) : (zeroValue 126).run Tryz.prog w = .ok (.pointer none) w := by kernel_rfl
theorem keyI (k : Int) (h : (Lit.int .i64 k).wf = true) : keyOf Tryz.prog 3 (.int .i64 k) = some (.int .i64 k) := Maps.keyOf_int_mk Tryz.underlying3 h
theorem len_mapP {w : World} {pm n : Nat} {pbs : List Nat} (h : w.ownsMap Tryz.prog 3 ptrElem pm n (mapP pbs n)) (ty : TypeId) : (Builtin.len_ #[94] ty #[.map (some pm)]).run Tryz.prog w = .ok (.int .i64 (n : Int)) w := by
  have := h.len Tryz.underlying94 ty
  rw [mapP_size] at this
  exact this
/-- A hunt as far as it is read. -/
structure HuntRd (w : World) (hb pm sb mb : Nat) (vc : Value) (nm : ByteArray) (now : Int) (full : Bool) (wd room tot : Int) (its : Itms) (ts : List ByteArray) (qs : PV) (pbs : List Nat) (lv : Value) (lk : Bool) : Prop where
  box : Blk w hb 96 #[.string nm, .int .i64 now, .bool full, .pointer (some ⟨sb, 0, none⟩), .map (some pm), lv, .bool lk]
  sbox : Blk w sb 109 #[.int .i64 wd, .int .i64 room, .int .i64 tot, .map (some mb), vc]
  smap : w.ownsMap Tryz.prog 9 itemElem mb its.length (mapI wd its its.length)
  srow : Reads w vc ts
  pmap : w.ownsMap Tryz.prog 3 ptrElem pm qs.length (mapP pbs qs.length)
  pblk : ∀ i, i < qs.length → Blk w (pbs.getD i 0) 81 (pcells (qp qs i) (qv qs i))
  nots : ∀ i, i < qs.length → Reads w (qv qs i) (qp qs i).nots
theorem HuntAt.rd {w : World} {B C1 C2 hb pm sb mb : Nat} {vc : Value} {nm : ByteArray} {now : Int} {full : Bool} {wd room : Int} {its : Itms} {ts : List ByteArray} {qs : PV} {pbs : List Nat} {lv : Value} {lk : Bool} (h : HuntAt w B C1 C2 hb pm sb mb vc nm now full wd room its ts qs pbs lv lk) : HuntRd w hb pm sb mb vc nm now full wd room (totI (its.take its.length) : Nat) its ts qs pbs lv lk :=
  ⟨h.box, h.shelf.box, h.shelf.map, Reads.of_row h.shelf.row, h.peers.map, fun i hi => (h.peers.blk i hi).2, fun i hi => Reads.of_row (h.peers.nots i hi)⟩
theorem HuntRd.below {w w' : World} {hb pm sb mb : Nat} {vc : Value} {nm : ByteArray} {now : Int} {full : Bool} {wd room tot : Int} {its : Itms} {ts : List ByteArray} {qs : PV} {pbs : List Nat} {lv : Value} {lk : Bool} (h : HuntRd w hb pm sb mb vc nm now full wd room tot its ts qs pbs lv lk) (hb' : Below w.heap.size w w') : HuntRd w' hb pm sb mb vc nm now full wd room tot its ts qs pbs lv lk :=
  ⟨h.box.below hb', h.sbox.below hb', h.smap.kept (grown_of_below hb') (by simp), h.srow.below hb', h.pmap.kept (grown_of_below hb') (by simp), fun i hi => (h.pblk i hi).below hb', fun i hi => (h.nots i hi).below hb'⟩
theorem map_lt {P : Program} {w : World} {k : TypeId} {R : Value → Option (DataW Unit × List MemPlace)} {b n : Nat} {D : DataW Unit} (h : w.ownsMap P k R b n D) : b < w.heap.size := by
  obtain ⟨es, clock, hm, _⟩ := h
  exact (Array.getElem?_eq_some_iff.1 hm).1
/-- The peer under a number. -/
theorem look_peer {W : World} {pm n : Nat} {pbs : List Nat} (h : W.ownsMap Tryz.prog 3 ptrElem pm n (mapP pbs n)) (j : Nat) (h1 : 1 ≤ j) (h2 : j ≤ n) (h3 : n ≤ 1000) : (Instr.lookup 94 (.map (some pm)) (.int .i64 (j : Int)) false).run Tryz.prog W = .ok (.pointer (some ⟨pbs.getD (j - 1) 0, 0, none⟩)) W := by
  obtain ⟨v, ps, hrun, hv⟩ := h.lookup keyed3 Tryz.underlying94 (zvPeer W) (show ptrElem (.pointer none) = some (.lit (.int .i64 (-1)), []) from rfl) (key3 j (by omega))
  rw [mapP_at pbs _ j h1 n h2] at hv
  obtain rfl := ptrElem_inv hv
  exact hrun
theorem look_peer_ok {W : World} {pm n : Nat} {pbs : List Nat} (h : W.ownsMap Tryz.prog 3 ptrElem pm n (mapP pbs n)) (j : Int) (hj : (Lit.int .i64 j).wf = true) : (Instr.lookup 94 (.map (some pm)) (.int .i64 j) true).run Tryz.prog W = .ok (.tuple #[if 1 ≤ j ∧ j ≤ (n : Int) then .pointer (some ⟨pbs.getD (j - 1).toNat 0, 0, none⟩) else .pointer none, .bool (decide (1 ≤ j ∧ j ≤ (n : Int)))]) W := by
  obtain ⟨v, ps, hrun, hv⟩ := h.look_ok keyed3 Tryz.underlying94 (zvPeer W) (show ptrElem (.pointer none) = some (.lit (.int .i64 (-1)), []) from rfl) (keyI j hj)
  by_cases hi : 1 ≤ j ∧ j ≤ (n : Int)
  · obtain ⟨i, rfl⟩ : ∃ i : Nat, j = (i : Int) := ⟨j.toNat, by omega⟩
    rw [mapP_at pbs _ i (by omega) n (by omega)] at hv
    obtain rfl := ptrElem_inv hv
    rw [mapP_in pbs i (by omega) n (by omega)] at hrun
    rw [if_pos hi, decide_eq_true hi, show ((i : Int) - 1).toNat = i - 1 by omega]
    exact hrun
  · rw [Maps.atKey_of_not_has (mapP_out pbs j n hi)] at hv
    obtain rfl := ptrElem_nil hv
    rw [mapP_out pbs j n hi] at hrun
    rw [if_neg hi, decide_eq_false hi]
    exact hrun
end Go.Proofs.YtlnkhbnbcmllaaaGreat
