/- Fetches in rows of their own; blocks of eight cells. -/
import Derived.Test.YtlnkhbnbcmllaaaGreatPeersMark
namespace Go.Proofs.YtlnkhbnbcmllaaaGreat
open Go.RowKit
/-- A fetch in rows of its own. -/
structure FetchOwn (w : World) (B : Nat) (vi vp vq : Value) (its : Itms) (ts : List ByteArray) (qs : PV) : Prop where
  store : StoreOwn w B vi vp its ts
  peers : PeersOwn w B vq qs
  apartI : ∀ g, vi.ownBlock = some g → ¬ PBlk vq qs g
  apartP : ∀ g, vp.ownBlock = some g → ¬ PBlk vq qs g
theorem FetchOwn.none (w : World) (B : Nat) : FetchOwn w B (.slice .none 0 0) (.slice .none 0 0) (.slice .none 0 0) [] [] [] :=
  ⟨StoreOwn.none w B, PeersOwn.none w B, fun g e => by simp [Value.ownBlock] at e, fun g e => by simp [Value.ownBlock] at e⟩
theorem FetchOwn.below {w w' : World} {B : Nat} {vi vp vq : Value} {its : Itms} {ts : List ByteArray} {qs : PV} (h : FetchOwn w B vi vp vq its ts qs) (hb : Below w.heap.size w w') : FetchOwn w' B vi vp vq its ts qs := ⟨h.store.below hb, h.peers.below hb, h.apartI, h.apartP⟩
theorem FetchOwn.base {w : World} {B B' : Nat} {vi vp vq : Value} {its : Itms} {ts : List ByteArray} {qs : PV} (h : FetchOwn w B vi vp vq its ts qs) (hb : B' ≤ B) : FetchOwn w B' vi vp vq its ts qs := ⟨h.store.base hb, h.peers.base hb, h.apartI, h.apartP⟩
theorem FetchOwn.kept {w w' : World} {B k : Nat} {vi vp vq : Value} {its : Itms} {ts : List ByteArray} {qs : PV} (h : FetchOwn w B vi vp vq its ts qs) (hg : w.grownBy w' (some k)) (hk : k < B) : FetchOwn w' B vi vp vq its ts qs := ⟨h.store.kept hg hk, h.peers.kept hg hk, h.apartI, h.apartP⟩
/-- The blocks of a fetch. -/
def FBlk (vi vp vq : Value) (qs : PV) (b : Nat) : Prop := vi.ownBlock = some b ∨ vp.ownBlock = some b ∨ PBlk vq qs b
theorem FetchOwn.lt {w : World} {B : Nat} {vi vp vq : Value} {its : Itms} {ts : List ByteArray} {qs : PV} (h : FetchOwn w B vi vp vq its ts qs) (b : Nat) (hb : FBlk vi vp vq qs b) : B ≤ b ∧ b < w.heap.size := by
  rcases hb with hb | hb | hb
  · exact h.store.items.lt b hb
  · exact h.store.pins.lt b hb
  · exact h.peers.lt b hb
theorem FetchOwn.same {w w' : World} {B : Nat} {vi vp vq : Value} {its : Itms} {ts : List ByteArray} {qs : PV} (h : FetchOwn w B vi vp vq its ts qs) (hs : ∀ b, FBlk vi vp vq qs b → w'.heap[b]? = w.heap[b]?) : FetchOwn w' B vi vp vq its ts qs :=
  ⟨h.store.same (fun g e => hs g (.inl e)) (fun g e => hs g (.inr (.inl e))), h.peers.same fun g e => hs g (.inr (.inr e)), h.apartI, h.apartP⟩
/-- A block of eight cells, all of them stored anew. -/
structure Store8 (u : World) (b : Nat) (T : TypeId) (c0 c1 c2 c3 c4 c5 c6 c7 d0 d1 d2 d3 d4 d5 d6 d7 : Value) : Prop where
  a0 : u.cell? ⟨b, 0, none⟩ = some c0
  f0 : u.frozen? ⟨b, 0, none⟩ = false
  a1 : (u.setCell ⟨b, 0, none⟩ d0).cell? ⟨b, 1, none⟩ = some c1
  f1 : (u.setCell ⟨b, 0, none⟩ d0).frozen? ⟨b, 1, none⟩ = false
  a2 : ((u.setCell ⟨b, 0, none⟩ d0).setCell ⟨b, 1, none⟩ d1).cell? ⟨b, 2, none⟩ = some c2
  f2 : ((u.setCell ⟨b, 0, none⟩ d0).setCell ⟨b, 1, none⟩ d1).frozen? ⟨b, 2, none⟩ = false
  a3 : (((u.setCell ⟨b, 0, none⟩ d0).setCell ⟨b, 1, none⟩ d1).setCell ⟨b, 2, none⟩ d2).cell? ⟨b, 3, none⟩ = some c3
  f3 : (((u.setCell ⟨b, 0, none⟩ d0).setCell ⟨b, 1, none⟩ d1).setCell ⟨b, 2, none⟩ d2).frozen? ⟨b, 3, none⟩ = false
  a4 : ((((u.setCell ⟨b, 0, none⟩ d0).setCell ⟨b, 1, none⟩ d1).setCell ⟨b, 2, none⟩ d2).setCell ⟨b, 3, none⟩ d3).cell? ⟨b, 4, none⟩ = some c4
  f4 : ((((u.setCell ⟨b, 0, none⟩ d0).setCell ⟨b, 1, none⟩ d1).setCell ⟨b, 2, none⟩ d2).setCell ⟨b, 3, none⟩ d3).frozen? ⟨b, 4, none⟩ = false
  a5 : (((((u.setCell ⟨b, 0, none⟩ d0).setCell ⟨b, 1, none⟩ d1).setCell ⟨b, 2, none⟩ d2).setCell ⟨b, 3, none⟩ d3).setCell ⟨b, 4, none⟩ d4).cell? ⟨b, 5, none⟩ = some c5
  f5 : (((((u.setCell ⟨b, 0, none⟩ d0).setCell ⟨b, 1, none⟩ d1).setCell ⟨b, 2, none⟩ d2).setCell ⟨b, 3, none⟩ d3).setCell ⟨b, 4, none⟩ d4).frozen? ⟨b, 5, none⟩ = false
  a6 : ((((((u.setCell ⟨b, 0, none⟩ d0).setCell ⟨b, 1, none⟩ d1).setCell ⟨b, 2, none⟩ d2).setCell ⟨b, 3, none⟩ d3).setCell ⟨b, 4, none⟩ d4).setCell ⟨b, 5, none⟩ d5).cell? ⟨b, 6, none⟩ = some c6
  f6 : ((((((u.setCell ⟨b, 0, none⟩ d0).setCell ⟨b, 1, none⟩ d1).setCell ⟨b, 2, none⟩ d2).setCell ⟨b, 3, none⟩ d3).setCell ⟨b, 4, none⟩ d4).setCell ⟨b, 5, none⟩ d5).frozen? ⟨b, 6, none⟩ = false
  a7 : (((((((u.setCell ⟨b, 0, none⟩ d0).setCell ⟨b, 1, none⟩ d1).setCell ⟨b, 2, none⟩ d2).setCell ⟨b, 3, none⟩ d3).setCell ⟨b, 4, none⟩ d4).setCell ⟨b, 5, none⟩ d5).setCell ⟨b, 6, none⟩ d6).cell? ⟨b, 7, none⟩ = some c7
  f7 : (((((((u.setCell ⟨b, 0, none⟩ d0).setCell ⟨b, 1, none⟩ d1).setCell ⟨b, 2, none⟩ d2).setCell ⟨b, 3, none⟩ d3).setCell ⟨b, 4, none⟩ d4).setCell ⟨b, 5, none⟩ d5).setCell ⟨b, 6, none⟩ d6).frozen? ⟨b, 7, none⟩ = false
/-- The world behind. -/
def set8 (u : World) (b : Nat) (d0 d1 d2 d3 d4 d5 d6 d7 : Value) : World := (((((((u.setCell ⟨b, 0, none⟩ d0).setCell ⟨b, 1, none⟩ d1).setCell ⟨b, 2, none⟩ d2).setCell ⟨b, 3, none⟩ d3).setCell ⟨b, 4, none⟩ d4).setCell ⟨b, 5, none⟩ d5).setCell ⟨b, 6, none⟩ d6).setCell ⟨b, 7, none⟩ d7
theorem set8_def (u : World) (b : Nat) (d0 d1 d2 d3 d4 d5 d6 d7 : Value) : (((((((u.setCell ⟨b, 0, none⟩ d0).setCell ⟨b, 1, none⟩ d1).setCell ⟨b, 2, none⟩ d2).setCell ⟨b, 3, none⟩ d3).setCell ⟨b, 4, none⟩ d4).setCell ⟨b, 5, none⟩ d5).setCell ⟨b, 6, none⟩ d6).setCell ⟨b, 7, none⟩ d7 = set8 u b d0 d1 d2 d3 d4 d5 d6 d7 := rfl
theorem Blk.store8 {u : World} {b : Nat} {T : TypeId} {c0 c1 c2 c3 c4 c5 c6 c7 : Value} (h : Blk u b T #[c0, c1, c2, c3, c4, c5, c6, c7]) (d0 d1 d2 d3 d4 d5 d6 d7 : Value) : Store8 u b T c0 c1 c2 c3 c4 c5 c6 c7 d0 d1 d2 d3 d4 d5 d6 d7 := by
  have h1 : Blk (u.setCell ⟨b, 0, none⟩ d0) b T #[d0, c1, c2, c3, c4, c5, c6, c7] := h.set 0 d0
  have h2 : Blk ((u.setCell ⟨b, 0, none⟩ d0).setCell ⟨b, 1, none⟩ d1) b T #[d0, d1, c2, c3, c4, c5, c6, c7] := h1.set 1 d1
  have h3 : Blk (((u.setCell ⟨b, 0, none⟩ d0).setCell ⟨b, 1, none⟩ d1).setCell ⟨b, 2, none⟩ d2) b T #[d0, d1, d2, c3, c4, c5, c6, c7] := h2.set 2 d2
  have h4 : Blk ((((u.setCell ⟨b, 0, none⟩ d0).setCell ⟨b, 1, none⟩ d1).setCell ⟨b, 2, none⟩ d2).setCell ⟨b, 3, none⟩ d3) b T #[d0, d1, d2, d3, c4, c5, c6, c7] := h3.set 3 d3
  have h5 : Blk (((((u.setCell ⟨b, 0, none⟩ d0).setCell ⟨b, 1, none⟩ d1).setCell ⟨b, 2, none⟩ d2).setCell ⟨b, 3, none⟩ d3).setCell ⟨b, 4, none⟩ d4) b T #[d0, d1, d2, d3, d4, c5, c6, c7] := h4.set 4 d4
  have h6 : Blk ((((((u.setCell ⟨b, 0, none⟩ d0).setCell ⟨b, 1, none⟩ d1).setCell ⟨b, 2, none⟩ d2).setCell ⟨b, 3, none⟩ d3).setCell ⟨b, 4, none⟩ d4).setCell ⟨b, 5, none⟩ d5) b T #[d0, d1, d2, d3, d4, d5, c6, c7] := h5.set 5 d5
  have h7 : Blk (((((((u.setCell ⟨b, 0, none⟩ d0).setCell ⟨b, 1, none⟩ d1).setCell ⟨b, 2, none⟩ d2).setCell ⟨b, 3, none⟩ d3).setCell ⟨b, 4, none⟩ d4).setCell ⟨b, 5, none⟩ d5).setCell ⟨b, 6, none⟩ d6) b T #[d0, d1, d2, d3, d4, d5, d6, c7] := h6.set 6 d6
  exact ⟨h.cell 0, h.fz 0, h1.cell 1, h1.fz 1, h2.cell 2, h2.fz 2, h3.cell 3, h3.fz 3, h4.cell 4, h4.fz 4, h5.cell 5, h5.fz 5, h6.cell 6, h6.fz 6, h7.cell 7, h7.fz 7⟩
theorem Blk.set8 {u : World} {b : Nat} {T : TypeId} {c0 c1 c2 c3 c4 c5 c6 c7 : Value} (h : Blk u b T #[c0, c1, c2, c3, c4, c5, c6, c7]) (d0 d1 d2 d3 d4 d5 d6 d7 : Value) : Blk (set8 u b d0 d1 d2 d3 d4 d5 d6 d7) b T #[d0, d1, d2, d3, d4, d5, d6, d7] := by
  have h1 : Blk (u.setCell ⟨b, 0, none⟩ d0) b T #[d0, c1, c2, c3, c4, c5, c6, c7] := h.set 0 d0
  have h2 : Blk ((u.setCell ⟨b, 0, none⟩ d0).setCell ⟨b, 1, none⟩ d1) b T #[d0, d1, c2, c3, c4, c5, c6, c7] := h1.set 1 d1
  have h3 : Blk (((u.setCell ⟨b, 0, none⟩ d0).setCell ⟨b, 1, none⟩ d1).setCell ⟨b, 2, none⟩ d2) b T #[d0, d1, d2, c3, c4, c5, c6, c7] := h2.set 2 d2
  have h4 : Blk ((((u.setCell ⟨b, 0, none⟩ d0).setCell ⟨b, 1, none⟩ d1).setCell ⟨b, 2, none⟩ d2).setCell ⟨b, 3, none⟩ d3) b T #[d0, d1, d2, d3, c4, c5, c6, c7] := h3.set 3 d3
  have h5 : Blk (((((u.setCell ⟨b, 0, none⟩ d0).setCell ⟨b, 1, none⟩ d1).setCell ⟨b, 2, none⟩ d2).setCell ⟨b, 3, none⟩ d3).setCell ⟨b, 4, none⟩ d4) b T #[d0, d1, d2, d3, d4, c5, c6, c7] := h4.set 4 d4
  have h6 : Blk ((((((u.setCell ⟨b, 0, none⟩ d0).setCell ⟨b, 1, none⟩ d1).setCell ⟨b, 2, none⟩ d2).setCell ⟨b, 3, none⟩ d3).setCell ⟨b, 4, none⟩ d4).setCell ⟨b, 5, none⟩ d5) b T #[d0, d1, d2, d3, d4, d5, c6, c7] := h5.set 5 d5
  have h7 : Blk (((((((u.setCell ⟨b, 0, none⟩ d0).setCell ⟨b, 1, none⟩ d1).setCell ⟨b, 2, none⟩ d2).setCell ⟨b, 3, none⟩ d3).setCell ⟨b, 4, none⟩ d4).setCell ⟨b, 5, none⟩ d5).setCell ⟨b, 6, none⟩ d6) b T #[d0, d1, d2, d3, d4, d5, d6, c7] := h6.set 6 d6
  exact h7.set 7 d7
theorem grown_set8 (u : World) (b : Nat) (d0 d1 d2 d3 d4 d5 d6 d7 : Value) : u.grownBy (set8 u b d0 d1 d2 d3 d4 d5 d6 d7) (some b) :=
  grown_same (grown_same (grown_same (grown_same (grown_same (grown_same (grown_same (grownBy_setCellAt u b 0 d0) (grownBy_setCellAt _ b 1 d1)) (grownBy_setCellAt _ b 2 d2)) (grownBy_setCellAt _ b 3 d3)) (grownBy_setCellAt _ b 4 d4)) (grownBy_setCellAt _ b 5 d5)) (grownBy_setCellAt _ b 6 d6)) (grownBy_setCellAt _ b 7 d7)
theorem below_set8 {B b : Nat} {w u : World} (h : Below B w u) (hb : B ≤ b) (hs : B ≤ w.heap.size) (d0 d1 d2 d3 d4 d5 d6 d7 : Value) : Below B w (set8 u b d0 d1 d2 d3 d4 d5 d6 d7) :=
  h.grown (grown_set8 u b d0 d1 d2 d3 d4 d5 d6 d7) (Nat.le_trans hs h.size) (fun g e => by cases e; exact hb)
/-- What an append into a row that lies in a field leaves. -/
theorem field_stored {W w6 : World} {n₀ tb k m sz c : Nat} {E : TypeId} {v v' : Value} {xs ys : List Value} {tmp : Obj} {T : TypeId} {cs : Array Value} (hB : Blk W tb T cs) (hrow : W.ownsRow n₀ E sz v k xs) (htb : tb < n₀) (hown' : w6.ownsRow n₀ E sz v' m ys) (hgrow : (W.alloc tmp).grownBy w6 v.ownBlock) :
    Blk w6 tb T cs ∧ (w6.setCell ⟨tb, c, none⟩ v').ownsRow n₀ E sz v' m ys ∧ ∀ A : World, A.grownBy W (some tb) → A.heap.size = n₀ → A.grownBy (w6.setCell ⟨tb, c, none⟩ v') (some tb) := by
  have hlt : ∀ g, v.ownBlock = some g → n₀ ≤ g := fun g e => (hrow.lt g e).1
  have hlt' : ∀ g, v'.ownBlock = some g → n₀ ≤ g := fun g e => (hown'.lt g e).1
  refine ⟨(hB.alloc tmp).kept hgrow (fun e => by have := hlt tb e.symm; omega), hown'.kept (grownBy_setCellAt w6 tb c v') (.inr fun e => by have := hlt' tb e; omega), fun A hA hn => ?_⟩
  exact grownBy_trans (grownBy_trans (grownBy_trans hA (World.grownBy_alloc W tmp none) (fun g e => by cases e)) hgrow (fun g e => .inr (by have := hlt g e; omega))) (grownBy_setCellAt w6 tb c v') (fun g e => .inl (by cases e; rfl))
theorem five_new (w : World) (a b c d f : Value) (t : TypeId) : ∀ j u, [a, b, c, d, f][j]? = some u → (w.alloc (.cells #[a, b, c, d, f] t)).cell? ((⟨w.heap.size, 0, none⟩ : Addr).add j) = some u := by
  intro j u hj
  have e : (⟨w.heap.size, 0, none⟩ : Addr).add j = ⟨w.heap.size, j, none⟩ := by simp [Addr.add]; intro h; exact h.symm
  rw [e, World.cell?_alloc_new]
  simpa using hj
theorem Tryz.infoPeer : (Tryz.prog.info? 81).map (fun i => (i.zero, i.size, i.bytes)) = some (some (.agg #[.int .i64 0, .int .i64 0, .int .i64 0, .string ⟨#[]⟩, .slice none 0 0]), 5, 64) := by kernel_rfl
end Go.Proofs.YtlnkhbnbcmllaaaGreat
