/- The peers of a hunt, under their numbers. -/
import Derived.Test.YtlnkhbnbcmllaaaGreatPeerImpl
import Derived.Test.YtlnkhbnbcmllaaaGreatOpenStore
import Derived.Test.YtlnkhbnbcmllaaaGreatPeerCount
namespace Go.Proofs.YtlnkhbnbcmllaaaGreat
open Go.RowKit
/-- How a pointer reads as an element of a map. -/
def ptrElem (v : Value) : Option (DataW Unit × List MemPlace) :=
  match v with
  | .pointer (some ⟨b, 0, none⟩) => some (.lit (.int .i64 (b : Int)), [])
  | .pointer none => some (.lit (.int .i64 (-1)), [])
  | _ => none
theorem ptrElem_mk (b : Nat) : ptrElem (.pointer (some ⟨b, 0, none⟩)) = some (.lit (.int .i64 (b : Int)), []) := rfl
/-- The map of the first peers: their blocks by their numbers. -/
def mapP (pbs : List Nat) : Nat → DataW Unit
  | 0 => .map []
  | k + 1 => (mapP pbs k).put (.int .i64 ((k + 1 : Nat) : Int)) (.lit (.int .i64 ((pbs.getD k 0 : Nat) : Int)))
theorem mapP_snoc (pbs : List Nat) (b : Nat) : ∀ k, k ≤ pbs.length → mapP (pbs ++ [b]) k = mapP pbs k
  | 0, _ => rfl
  | k + 1, h => by
    have e : (pbs ++ [b]).getD k 0 = pbs.getD k 0 := by rw [List.getD_eq_getElem?_getD, List.getElem?_append_left (by omega), ← List.getD_eq_getElem?_getD]
    simp only [mapP]
    rw [mapP_snoc pbs b k (by omega), e]
theorem makePeers (n : Nat) (w : World) : (Instr.makeMap 94 (some (.int .i64 (n : Int)))).run Tryz.prog w = .ok (.map (some w.heap.size)) (w.alloc (.map #[] 0)) := by
  simp [Instr.makeMap, go_sem]
theorem keyed3 : Maps.Keyed Tryz.prog 3 := Maps.int_keyed Tryz.underlying3
theorem key3 (k : Nat) (h : k ≤ 1000) : keyOf Tryz.prog 3 (.int .i64 (k : Int)) = some (.int .i64 (k : Int)) := Maps.keyOf_int_mk Tryz.underlying3 (by
  have h1 : IntKind.i64.min = -9223372036854775808 := rfl
  have h2 : IntKind.i64.max = 9223372036854775807 := rfl
  simp [Lit.wf]
  omega)
abbrev pcells (p : Pr) (v : Value) : Array Value := #[.int .i64 p.lies, .int .i64 p.wait, .int .i64 p.last, .string p.asked, v]
/-- The peers of a hunt. -/
structure PeersAt (w : World) (C pm : Nat) (qs : PV) (pbs : List Nat) : Prop where
  len : pbs.length = qs.length
  map : w.ownsMap Tryz.prog 3 ptrElem pm qs.length (mapP pbs qs.length)
  blk : ∀ i, i < qs.length → C ≤ pbs.getD i 0 ∧ Blk w (pbs.getD i 0) 81 (pcells (qp qs i) (qv qs i))
  nots : ∀ i, i < qs.length → w.ownsRow C 9 1 (qv qs i) (qp qs i).nots.length ((qp qs i).nots.map Value.string)
  ap1 : ∀ i j, i < qs.length → j < qs.length → (qv qs i).ownBlock ≠ some (pbs.getD j 0)
  ap2 : ∀ i j, i < qs.length → j < qs.length → i ≠ j → pbs.getD i 0 ≠ pbs.getD j 0
  ap3 : ∀ i j, i < qs.length → j < qs.length → i ≠ j → ∀ g, (qv qs i).ownBlock = some g → (qv qs j).ownBlock ≠ some g
theorem PeersAt.below {w w' : World} {C pm : Nat} {qs : PV} {pbs : List Nat} (h : PeersAt w C pm qs pbs) (hb : Below w.heap.size w w') : PeersAt w' C pm qs pbs :=
  ⟨h.len, h.map.kept (grown_of_below hb) (by simp), fun i hi => ⟨(h.blk i hi).1, (h.blk i hi).2.below hb⟩, fun i hi => Below.row hb (h.nots i hi), h.ap1, h.ap2, h.ap3⟩
theorem qp_init (qs : PV) (q : Pr × Value) (j : Nat) (h : j < qs.length) : qp (qs ++ [q]) j = qp qs j := by
  unfold qp
  rw [List.getD_eq_getElem?_getD, List.getElem?_append_left h, ← List.getD_eq_getElem?_getD]
theorem qp_last (qs : PV) (q : Pr × Value) : qp (qs ++ [q]) qs.length = q.1 := by simp [qp]
theorem qv_init (qs : PV) (q : Pr × Value) (j : Nat) (h : j < qs.length) : qv (qs ++ [q]) j = qv qs j := by
  unfold qv
  rw [List.getD_eq_getElem?_getD, List.getElem?_append_left h, ← List.getD_eq_getElem?_getD]
theorem qv_last (qs : PV) (q : Pr × Value) : qv (qs ++ [q]) qs.length = q.2 := by simp [qv]
theorem pb_init (pbs : List Nat) (b j : Nat) (h : j < pbs.length) : (pbs ++ [b]).getD j 0 = pbs.getD j 0 := by
  rw [List.getD_eq_getElem?_getD, List.getElem?_append_left h, ← List.getD_eq_getElem?_getD]
theorem pb_last (pbs : List Nat) (b n : Nat) (h : pbs.length = n) : (pbs ++ [b]).getD n 0 = b := by subst h; simp
/-- One peer more: its box and its row are new. -/
theorem PeersAt.snoc {w w1 w2 : World} {C pm pb : Nat} {qs : PV} {pbs : List Nat} {p : Pr} {v : Value} (h : PeersAt w C pm qs pbs) (hpm : pm < C) (hC : C ≤ w.heap.size) (hb : Below w.heap.size w w1) (hblk : Blk w1 pb 81 (pcells p v)) (hpb : w.heap.size ≤ pb) (hrow : w1.ownsRow w.heap.size 9 1 v p.nots.length (p.nots.map Value.string)) (hne : v.ownBlock ≠ some pb)
    (hm : w2.ownsMap Tryz.prog 3 ptrElem pm (qs.length + 1) ((mapP pbs qs.length).put (.int .i64 ((qs.length + 1 : Nat) : Int)) (.lit (.int .i64 (pb : Int))))) (hg : w1.grownBy w2 (some pm)) : PeersAt w2 C pm (qs ++ [(p, v)]) (pbs ++ [pb]) := by
  have hl : (qs ++ [(p, v)]).length = qs.length + 1 := by simp
  have hlt : ∀ i, i < qs.length → pbs.getD i 0 < w.heap.size := fun i hi => (h.blk i hi).2.lt
  have hnl : ∀ i, i < qs.length → ∀ g, (qv qs i).ownBlock = some g → C ≤ g ∧ g < w.heap.size := fun i hi g e => (h.nots i hi).lt g e
  have hvl : ∀ g, v.ownBlock = some g → w.heap.size ≤ g := fun g e => (hrow.lt g e).1
  have hkb : ∀ i, i < qs.length + 1 → i = qs.length ∨ i < qs.length := fun i hi => by omega
  have P0 := pb_last pbs pb qs.length h.len
  have P1 : ∀ j, j < qs.length → (pbs ++ [pb]).getD j 0 = pbs.getD j 0 := fun j hj => pb_init pbs pb j (by rw [h.len]; exact hj)
  have Q0 := qp_last qs (p, v)
  have Q1 := qp_init qs (p, v)
  have V0 := qv_last qs (p, v)
  have V1 := qv_init qs (p, v)
  refine ⟨by simp [h.len], ?_, fun i hi => ?_, fun i hi => ?_, fun i j hi hj => ?_, fun i j hi hj hij => ?_, fun i j hi hj hij g => ?_⟩
  · rw [hl]
    have e : mapP (pbs ++ [pb]) (qs.length + 1) = (mapP pbs qs.length).put (.int .i64 ((qs.length + 1 : Nat) : Int)) (.lit (.int .i64 (pb : Int))) := by
      simp only [mapP]
      rw [mapP_snoc pbs pb qs.length (by rw [h.len]; exact Nat.le_refl _), P0]
    rw [e]
    exact hm
  · rw [hl] at hi
    rcases hkb i hi with rfl | hi'
    · rw [P0, Q0, V0]
      exact ⟨by omega, hblk.kept hg (fun e => by have := Option.some.inj e; omega)⟩
    · rw [P1 i hi', Q1 i hi', V1 i hi']
      have := h.blk i hi'
      exact ⟨this.1, (this.2.below hb).kept hg (fun e => by have := Option.some.inj e; omega)⟩
  · rw [hl] at hi
    rcases hkb i hi with rfl | hi'
    · rw [Q0, V0]
      exact row_far (ownsRow_base hrow hC) hg (fun e => by have := hvl _ e; omega)
    · rw [Q1 i hi', V1 i hi']
      exact row_far (Below.row hb (h.nots i hi')) hg (fun e => by have := (hnl i hi' _ e).1; omega)
  · rw [hl] at hi hj
    rcases hkb i hi with rfl | hi' <;> rcases hkb j hj with rfl | hj'
    · rw [V0, P0]; exact hne
    · rw [V0, P1 j hj']; exact fun e => by have := hvl _ e; have := hlt j hj'; omega
    · rw [V1 i hi', P0]; exact fun e => by have := (hnl i hi' _ e).2; omega
    · rw [V1 i hi', P1 j hj']; exact h.ap1 i j hi' hj'
  · rw [hl] at hi hj
    rcases hkb i hi with rfl | hi' <;> rcases hkb j hj with rfl | hj'
    · exact absurd rfl hij
    · rw [P0, P1 j hj']; have := hlt j hj'; omega
    · rw [P1 i hi', P0]; have := hlt i hi'; omega
    · rw [P1 i hi', P1 j hj']; exact h.ap2 i j hi' hj' hij
  · rw [hl] at hi hj
    rcases hkb i hi with rfl | hi' <;> rcases hkb j hj with rfl | hj'
    · exact absurd rfl hij
    · rw [V0, V1 j hj']; exact fun e e2 => by have := hvl _ e; have := (hnl j hj' _ e2).2; omega
    · rw [V1 i hi', V0]; exact fun e e2 => by have := hvl _ e2; have := (hnl i hi' _ e).2; omega
    · rw [V1 i hi', V1 j hj']; exact h.ap3 i j hi' hj' hij g
theorem ShelfAt.far {w w' : World} {B sb mb b : Nat} {vc : Value} {wd room : Int} {its : Itms} {ts : List ByteArray} {k : Nat} (h : ShelfAt w B sb mb vc wd room its ts k) (hg : w.grownBy w' (some b)) (h1 : b ≠ sb) (h2 : b ≠ mb) (h3 : vc.ownBlock ≠ some b) : ShelfAt w' B sb mb vc wd room its ts k :=
  ⟨h.box.kept hg (fun e => h1 (Option.some.inj e).symm), h.map.kept hg (fun e => h2 (Option.some.inj e).symm), row_far h.row hg h3, h.hs, h.hm, h.ne, h.ns, h.nm⟩
theorem ShelfAt.base {w : World} {B B' sb mb : Nat} {vc : Value} {wd room : Int} {its : Itms} {ts : List ByteArray} {k : Nat} (h : ShelfAt w B sb mb vc wd room its ts k) (hb : B' ≤ B) : ShelfAt w B' sb mb vc wd room its ts k :=
  ⟨h.box, h.map, ownsRow_base h.row hb, Nat.le_trans hb h.hs, Nat.le_trans hb h.hm, h.ne, h.ns, h.nm⟩
/-- A hunt: a shelf, below it the box and the map, below these the peers. -/
structure HuntAt (w : World) (B C1 C2 hb pm sb mb : Nat) (vc : Value) (nm : ByteArray) (now : Int) (full : Bool) (wd room : Int) (its : Itms) (ts : List ByteArray) (qs : PV) (pbs : List Nat) (lv : Value) (lk : Bool) : Prop where
  box : Blk w hb 96 #[.string nm, .int .i64 now, .bool full, .pointer (some ⟨sb, 0, none⟩), .map (some pm), lv, .bool lk]
  shelf : ShelfAt w B sb mb vc wd room its ts its.length
  peers : PeersAt w C2 pm qs pbs
  s1 : sb < C1
  s2 : mb < C1
  s3 : ∀ g, vc.ownBlock = some g → g < C1
  b1 : C1 ≤ hb
  b2 : C1 ≤ pm
  b3 : hb < C2
  b4 : pm < C2
  b5 : hb ≠ pm
  b6 : B ≤ C1
  b7 : C2 ≤ w.heap.size
def FRes (nm : ByteArray) (now : Int) (full : Bool) (wd room : Int) (its : Itms) (ts : List ByteArray) (ps : Prs) (w : World) (e : Ending) (w' : World) : Prop :=
  (¬ ValidF nm now wd room its ts ps ∧ e = .returned (.tuple #[.pointer none, .bool false]) ∧ Below w.heap.size w w') ∨
  (ValidF nm now wd room its ts ps ∧ ∃ C1 C2 hb pm sb mb vc qs pbs, e = .returned (.tuple #[.pointer (some ⟨hb, 0, none⟩), .bool true]) ∧ qs.map Prod.fst = ps ∧ HuntAt w' w.heap.size C1 C2 hb pm sb mb vc nm now full wd room its ts qs pbs (.slice none 0 0) false ∧ Below w.heap.size w w')
theorem FRes.no {nm : ByteArray} {now : Int} {full : Bool} {wd room : Int} {its : Itms} {ts : List ByteArray} {ps : Prs} {w w' : World} (h : ¬ ValidF nm now wd room its ts ps) (hb : Below w.heap.size w w') : FRes nm now full wd room its ts ps w (.returned (.tuple #[.pointer none, .bool false])) w' := .inl ⟨h, rfl, hb⟩
end Go.Proofs.YtlnkhbnbcmllaaaGreat
