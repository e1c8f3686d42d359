import Derived.Test.YtkghbegdjeehaaaGreatDoorChooser
import Derived.Test.YtkghbegdjeehaaaGreatDoorAskNums
import Derived.Test.YtkghbegdjeehaaaGreatDoorWorlds
import Derived.Test.YtkghbegdjeehaaaGreatDoorFetchTo
import Derived.Test.YtkghbegdjeehaaaGreatDoorShort
import Derived.Test.YtkghbegdjeehaaaGreatDoorAreSums
import Derived.Test.YtkghbegdjeehaaaGreatDoorCopySpec
/- (*impl.hunt).chooser; a hunt while fresh blocks turn. -/
namespace Go.Proofs.YtkghbegdjeehaaaGreatDoor
open Go.RowKit
section
variable {w w' : World} {B C1 C2 hb pm sb mb : Nat} {vc : Value} {nm : ByteArray} {now : Int} {full : Bool} {wd room : Int} {its : Itms} {ts : List ByteArray} {qs : PV} {pbs : List Nat} {lv : Value} {lk : Bool}
/-- Where all blocks of a hunt lie. -/
structure Lies (N C2 : Nat) (qs : PV) (pbs : List Nat) : Prop where
 c2 : C2 ≤ N
 pb : ∀ i, i < qs.length → pbs.getD i 0 < N
 nt : ∀ i, i < qs.length → ∀ g, (qv qs i).ownBlock = some g → g < N
theorem HuntAt.under (H : HuntAt w B C1 C2 hb pm sb mb vc nm now full wd room its ts qs pbs lv lk) : Lies w.heap.size C2 qs pbs := ⟨H.b7, fun i hi => (H.peers.blk i hi).2.lt, fun i hi g e => ((H.peers.nots i hi).lt g e).2⟩
theorem HuntAt.fresh {N : Nat} {P : Nat → Prop} (H : HuntAt w B C1 C2 hb pm sb mb vc nm now full wd room its ts qs pbs lv lk) (U : Lies N C2 qs pbs) (T : But P w w') (hP : ∀ b, P b → N ≤ b) : HuntAt w' B C1 C2 hb pm sb mb vc nm now full wd room its ts qs pbs lv lk := by
 have e1 := H.s1; have e2 := H.s2; have e3 := H.b1; have e4 := H.b2; have e5 := H.b3; have e6 := H.b4; have e7 := U.c2
 refine ⟨T.blk H.box (fun h => by have := hP _ h; omega), ⟨T.blk H.shelf.box (fun h => by have := hP _ h; omega), T.map H.shelf.map (fun h => by have := hP _ h; omega), T.row H.shelf.row (fun g e h => by have := H.s3 g e; have := hP _ h; omega), H.shelf.hs, H.shelf.hm, H.shelf.ne, H.shelf.ns, H.shelf.nm⟩, ⟨H.peers.len, T.map H.peers.map (fun h => by have := hP _ h; omega), fun j hj => ⟨(H.peers.blk j hj).1, T.blk (H.peers.blk j hj).2 (fun h => by have := hP _ h; have := U.pb j hj; omega)⟩, fun j hj => T.row (H.peers.nots j hj) (fun g e h => by have := hP _ h; have := U.nt j hj g e; omega), H.peers.ap1, H.peers.ap2, H.peers.ap3⟩, H.s1, H.s2, H.s3, H.b1, H.b2, H.b3, H.b4, H.b5, H.b6, Nat.le_trans H.b7 T.size⟩
end
set_option maxRecDepth 100000 in
set_option maxHeartbeats 2000000 in
theorem chooser_any (B C1 C2 hb pm sb mb : Nat) (vc : Value) (nm : ByteArray) (now : Int) (full : Bool) (wd room : Int) (its : Itms) (ts : List ByteArray) (qs : PV) (pbs : List Nat) (w : World) (H : HuntAt w B C1 C2 hb pm sb mb vc nm now full wd room its ts qs pbs (.slice none 0 0) false) (hN : (sumsL wd its).Pairwise (· < ·)) (hnm : nm.size ≤ 1048576) (hsi : ∀ i, (itx its i).size ≤ 1048576) (hE : Errs w) :
  Calls Tryz.prog 76 #[.pointer (some ⟨hb, 0, none⟩)] w fun e w' => ∃ bx vl v lacks, e = .returned (.func (.func 92) #[] #[.pointer (some ⟨bx, 0, none⟩)]) ∧ LackU wd its nm lacks ∧ Blk w' bx 23 #[v] ∧ w'.ownsRow w.heap.size 9 1 v (lacks.filter fun s => !askA qs s).length ((lacks.filter fun s => !askA qs s).map Value.string) ∧ w.heap.size ≤ bx ∧ HuntAt w' B C1 C2 hb pm sb mb vc nm now full wd room its ts qs pbs vl true ∧ But (fun b => b = hb) w w' := by
 have HLA := hid (lacked_any B C1 C2 hb pm sb mb vc nm now full wd room its ts qs pbs w H hN hnm hsi hE)
 have hec := enters_of Tryz.func91 (by kernel_rfl) rfl
 clear H hN hsi hE
 go_enter Tryz.func76, Tryz.ntmps76
 go_wp2_with fail
 refine HLA.out.mono ?_
 rintro e w1 ⟨v1, lacks, rfl, hlu, R1, H1, T1⟩
 have hfew := hlu.few.1
 have HLU := hid hlu
 have HH1 := hid H1
 have HT1 := hid T1
 have HCL := hid (cloneRow_any v1 lacks w1 (Reads.of_row R1) (by omega))
 have hs1 := T1.size
 obtain ⟨a1, c1, hv1⟩ := row_any R1
 subst hv1
 clear hlu R1 H1 T1
 go_wp2_with fail
 refine HCL.out.mono ?_
 rintro e w2 ⟨v2, rfl, R2, hb2⟩
 have hs2 := hb2.size
 have HB2 := hid hb2
 have HPK : Hid (∀ g, w1.heap.size ≤ g → Picks 91 (.pointer (some ⟨hb, 0, none⟩)) (askA qs) g w2) := hid fun g hg s W hW => isAsked_any hb pm sb mb vc nm now full wd room _ its ts qs pbs _ true s W (HH1.out.rd.below (HB2.out.trans (hW.below (B := w1.heap.size) HB2.out.size (fun b e => by omega))))
 by_cases hnil : v2 = .slice none 0 0
 ·subst hnil
  have hl0 : lacks = [] := by
   obtain ⟨_, ⟨_, h0⟩ | ⟨g, cap, cur, e, _⟩⟩ := R2
   ·exact List.length_eq_zero_iff.1 (by omega)
   ·cases e
  have HDF := hid (deleteFunc_nil 91 (.pointer (some ⟨hb, 0, none⟩)) (askA qs) w2 hec (HPK.out _ hs2))
  clear hb2 R2
  go_wp2_with fail
  refine HDF.out.mono ?_
  rintro e w3 ⟨rfl, hb3⟩
  have B3 := HB2.out.trans (hb3.mono HB2.out.size)
  have D4 : Below w1.heap.size w1 (w3.alloc (.cells #[.slice none 0 0] 23)) := B3.alloc B3.size _
  have HX4 := hid (Blk.new w3 23 #[.slice none 0 0])
  have HH4 := hid (HH1.out.later D4)
  have HT4 := hid (HT1.out.trans (But.of_below (P := fun _ => False) D4) (fun _ _ h => h.elim))
  have hs3 := B3.size
  have HL0 := hid hl0
  clear hb3 B3 D4 hl0
  go_wp2
  go_ret
  exact ⟨w3.heap.size, .slice a1 lacks.length c1, .slice none 0 0, lacks, rfl, HLU.out, HX4.out, by rw [HL0.out]; exact World.ownsRow_nil _ _ _ _, by omega, HH4.out, HT4.out⟩
 ·obtain ⟨g, c, ev, hg⟩ : ∃ g c, v2 = .slice (some ⟨g, 0, none⟩) lacks.length c ∧ w1.heap.size ≤ g := by
   obtain ⟨_, ⟨e, h0⟩ | ⟨g, cap, cur, e, h1, _⟩⟩ := R2
   ·exact absurd e hnil
   ·exact ⟨g, cap, e, h1⟩
  subst ev
  have HDF := hid (deleteFunc_any 91 (.pointer (some ⟨hb, 0, none⟩)) (askA qs) g c w1.heap.size lacks w2 hec R2 (by omega) (HPK.out g hg))
  clear hb2 R2 hnil
  go_wp2_with fail
  refine HDF.out.mono ?_
  rintro e w3 ⟨rfl, R3, T3⟩
  obtain ⟨v3, hv3⟩ : ∃ v, v = Value.slice (some ⟨g, 0, none⟩) (lacks.filter fun s => !askA qs s).length c := ⟨_, rfl⟩
  have B3 : Below w1.heap.size w1 w3 := HB2.out.trans (T3.below HB2.out.size (fun b e => by omega))
  have HX4 := hid (Blk.new w3 23 #[v3])
  have D4 : Below w1.heap.size w1 (w3.alloc (.cells #[v3] 23)) := B3.alloc B3.size _
  have HH4 := hid (HH1.out.later D4)
  have HT4 := hid (HT1.out.trans (But.of_below (P := fun _ => False) D4) (fun _ _ h => h.elim))
  rw [← hv3] at R3
  have HR4 := hid (ownsRow_base (Below.row ((Below.refl w3.heap.size w3).alloc (Nat.le_refl _) (.cells #[v3] 23)) R3) hs1)
  have hs3 := B3.size
  have HV3 := hid hv3
  clear B3 D4 R3 T3
  rw [← hv3]
  obtain ⟨q3, l3, c3, hq3⟩ : ∃ a l c, v3 = .slice a l c := ⟨_, _, _, hv3⟩
  subst hq3
  clear hv3
  go_wp2
  go_ret
  exact ⟨w3.heap.size, .slice a1 lacks.length c1, _, lacks, rfl, HLU.out, HX4.out, HR4.out, by omega, HH4.out, HT4.out⟩
end Go.Proofs.YtkghbegdjeehaaaGreatDoor
/- Rows of messages of their own; laws.markMessageS and laws.heldMessageS. -/
namespace Go.Proofs.YtkghbegdjeehaaaGreatDoor
open Go.RowKit
def cellsG (ms : Mgs) : List Value := ms.flatMap fun q => [Value.int .i64 q.fr, .int .i64 q.to, .string q.sum, .bool q.has, .string q.text]
theorem cellsG_len : ∀ ms : Mgs, (cellsG ms).length = ms.length * 5
 | [] => rfl
 | q :: r => by
  have := cellsG_len r
  simp only [cellsG, List.flatMap_cons, List.length_append, List.length_cons, List.length_nil] at this ⊢
  omega
structure G5 (l : List Value) (o : Nat) (p : Mg) : Prop where
 c0 : l[o]? = some (.int .i64 p.fr)
 c1 : l[o + 1]? = some (.int .i64 p.to)
 c2 : l[o + 2]? = some (.string p.sum)
 c3 : l[o + 3]? = some (.bool p.has)
 c4 : l[o + 4]? = some (.string p.text)
theorem cellsG_at : ∀ (ms : Mgs) (i : Nat), i < ms.length → G5 (cellsG ms) (i * 5) (mat ms i)
 | [], i, h => absurd h (by simp)
 | q :: r, 0, _ => by constructor <;> simp [cellsG, mat]
 | q :: r, i + 1, h => by
  have ih := cellsG_at r i (by simpa using h)
  have e : (i + 1) * 5 = i * 5 + 1 + 1 + 1 + 1 + 1 := by omega
  have hc : cellsG (q :: r) = .int .i64 q.fr :: .int .i64 q.to :: .string q.sum :: .bool q.has :: .string q.text :: cellsG r := rfl
  have hp : mat (q :: r) (i + 1) = mat r i := rfl
  rw [e, hc, hp]
  refine ⟨?_, ?_, ?_, ?_, ?_⟩
  ·simpa using ih.c0
  ·rw [show i * 5 + 1 + 1 + 1 + 1 + 1 + 1 = i * 5 + 1 + 1 + 1 + 1 + 1 + 1 from rfl]; simpa using ih.c1
  ·rw [show i * 5 + 1 + 1 + 1 + 1 + 1 + 2 = i * 5 + 2 + 1 + 1 + 1 + 1 + 1 by omega]; simpa using ih.c2
  ·rw [show i * 5 + 1 + 1 + 1 + 1 + 1 + 3 = i * 5 + 3 + 1 + 1 + 1 + 1 + 1 by omega]; simpa using ih.c3
  ·rw [show i * 5 + 1 + 1 + 1 + 1 + 1 + 4 = i * 5 + 4 + 1 + 1 + 1 + 1 + 1 by omega]; simpa using ih.c4
theorem cellsG_set (ms : Mgs) (i : Nat) (p : Mg) (h : i < ms.length) : (((((cellsG ms).set (i * 5) (.int .i64 p.fr)).set (i * 5 + 1) (.int .i64 p.to)).set (i * 5 + 2) (.string p.sum)).set (i * 5 + 3) (.bool p.has)).set (i * 5 + 4) (.string p.text) = cellsG (ms.set i p) := by
 induction ms generalizing i with
 | nil => simp at h
 | cons q r ih =>
  have c : ∀ (q : Mg) (s : Mgs), cellsG (q :: s) = .int .i64 q.fr :: .int .i64 q.to :: .string q.sum :: .bool q.has :: .string q.text :: cellsG s := fun q s => rfl
  cases i with
  | zero => simp [cellsG]
  | succ i =>
   have := ih i (by simpa using h)
   have e : (i + 1) * 5 = i * 5 + 1 + 1 + 1 + 1 + 1 := by omega
   have e1 : i * 5 + 1 + 1 + 1 + 1 + 1 + 1 = (i * 5 + 1) + 1 + 1 + 1 + 1 + 1 := by omega
   have e2 : i * 5 + 1 + 1 + 1 + 1 + 1 + 2 = (i * 5 + 2) + 1 + 1 + 1 + 1 + 1 := by omega
   have e3 : i * 5 + 1 + 1 + 1 + 1 + 1 + 3 = (i * 5 + 3) + 1 + 1 + 1 + 1 + 1 := by omega
   have e4 : i * 5 + 1 + 1 + 1 + 1 + 1 + 4 = (i * 5 + 4) + 1 + 1 + 1 + 1 + 1 := by omega
   rw [e, e2, e3, e4, c]
   simp only [List.set_cons_succ]
   rw [this, c]
/-- A row of messages of its own. -/
def MsgOwn (w : World) (B : Nat) (v : Value) (ms : Mgs) : Prop := w.ownsRow B 56 5 v ms.length (cellsG ms)
theorem MsgOwn.rd {w : World} {B : Nat} {v : Value} {ms : Mgs} (h : MsgOwn w B v ms) : RdM w v ms := by
 obtain ⟨a, cap, hv⟩ := row_any h
 subst hv
 refine ⟨a, cap, rfl, fun i hi => ?_⟩
 obtain ⟨g, cap', e, hg, hgl⟩ := World.ownsRow.form h (by omega)
 cases e
 have hl := cellsG_len ms
 have q := cellsG_at ms i hi
 unfold MsgOwn at h
 refine ⟨g, 0, rfl, hgl, ?_, ?_, ?_, ?_, ?_⟩
 ·rw [Nat.zero_add]; exact (h.cellAt _ (by omega)).trans q.c0
 ·rw [Nat.zero_add]; exact (h.cellAt _ (by omega)).trans q.c1
 ·rw [Nat.zero_add]; exact (h.cellAt _ (by omega)).trans q.c2
 ·rw [Nat.zero_add]; exact (h.cellAt _ (by omega)).trans q.c3
 ·rw [Nat.zero_add]; exact (h.cellAt _ (by omega)).trans q.c4
def thr (k : Nat) : Bool := (k : Int) % 3 == 0
def markG (k : Nat) : Mg := ⟨k, (k + 1 : Nat), markB (k + 2), thr (k + 3), markB (k + 4)⟩
def marksG (k n : Nat) : Mgs := (List.range n).map fun i => markG (k + 5 * i)
theorem marksG_len (k n : Nat) : (marksG k n).length = n := by simp [marksG]
theorem marksG_at (k n i : Nat) (h : i < n) : mat (marksG k n) i = markG (k + 5 * i) := by simp [marksG, mat, h]
def mixG (k m : Nat) (ms : Mgs) : Mgs := (marksG k m) ++ ms.drop m
theorem mixG_len (k m : Nat) (ms : Mgs) (h : m ≤ ms.length) : (mixG k m ms).length = ms.length := by simp [mixG, marksG_len]; omega
theorem mixG_zero (k : Nat) (ms : Mgs) : mixG k 0 ms = ms := by simp [mixG, marksG]
theorem mixG_all (k : Nat) (ms : Mgs) : mixG k ms.length ms = marksG k ms.length := by simp [mixG]
theorem mixG_succ (k m : Nat) (ms : Mgs) (h : m < ms.length) : (mixG k m ms).set m (markG (k + 5 * m)) = mixG k (m + 1) ms := by
 unfold mixG
 rw [List.set_append_right _ _ (by rw [marksG_len]; exact Nat.le_refl _), marksG_len, Nat.sub_self, List.drop_eq_getElem_cons h, List.set_cons_zero]
 unfold marksG
 rw [List.range_succ, List.map_append]
 simp
set_option maxRecDepth 100000 in
set_option maxHeartbeats 2000000 in
theorem markMessageS_grown (v : Value) (k base : Nat) (ms : Mgs) (w : World) (hown : MsgOwn w base v ms) (h1 : 1 ≤ k) (h2 : k + 5 * ms.length ≤ 4400000) :
  Calls Tryz.prog 11 #[v, .int .i64 k] w fun e w' => e = .returned (.int .i64 ((k + 5 * ms.length : Nat) : Int)) ∧ MsgOwn w' base v (marksG k ms.length) ∧ w.grownBy w' v.ownBlock := by
 unfold MsgOwn at hown ⊢
 obtain ⟨a, cap, rfl⟩ := row_any hown
 have hform : 0 < ms.length → ∃ g, a = some ⟨g, 0, none⟩ := fun h => by
  rcases hown with ⟨_, ⟨e, h0⟩ | ⟨g, cap', cur, e, _⟩⟩
  ·omega
  ·cases e; exact ⟨g, rfl⟩
 have HW := hid hown
 clear hown
 rw [marksG_len]
 go_enter Tryz.func11, Tryz.ntmps11
 go_wp2
 go_loopw [1, 5] (fun x i wr => ∃ m : Nat, m ≤ ms.length ∧ i = .int .i64 m ∧ x = .int .i64 ((k + 5 * m : Nat) : Int) ∧ wr.ownsRow base 56 5 (.slice a ms.length cap) ms.length (cellsG (mixG k m ms)) ∧ w.grownBy wr (Value.slice a ms.length cap).ownBlock) (fun _ i _ => ms.length - (intOf i).toNat)
 case atStart => exact ⟨0, Nat.zero_le _, rfl, rfl, by rw [mixG_zero]; exact HW.out, grown_refl2 _ _⟩
 case round =>
  obtain ⟨m, hm, rfl, rfl, hr, hb⟩ := hrel
  by_cases hlt : m < ms.length
  ·obtain ⟨g, rfl⟩ := hform (by omega)
   have hlm := mixG_len k m ms hm
   obtain ⟨j, hj⟩ : ∃ j, j = k + 5 * m := ⟨_, rfl⟩
   have HX := hid (mixG_succ k m ms hlt)
   have hC := cellsG_at (mixG k m ms) m (by rw [hlm]; exact hlt)
   have HC2 := hid (cellsG_set (mixG k m ms) m (markG (k + 5 * m)) (by rw [hlm]; exact hlt))
   rw [← hj] at HX HC2 ⊢
   have HJ := hid hj
   obtain ⟨j1, hj1⟩ : ∃ j1, j1 = j + 1 := ⟨_, rfl⟩
   obtain ⟨j2, hj2⟩ : ∃ j2, j2 = j + 2 := ⟨_, rfl⟩
   obtain ⟨j3, hj3⟩ : ∃ j3, j3 = j + 3 := ⟨_, rfl⟩
   obtain ⟨j4, hj4⟩ : ∃ j4, j4 = j + 4 := ⟨_, rfl⟩
   obtain ⟨j5, hj5⟩ : ∃ j5, j5 = j + 5 := ⟨_, rfl⟩
   have hw1 : IntKind.i64.wrap ((j : Int) + 1) = (j1 : Int) := by rw [IntKind.wrap_i64]; omega
   have hw2 : IntKind.i64.wrap ((j1 : Int) + 1) = (j2 : Int) := by rw [IntKind.wrap_i64]; omega
   have hw3 : IntKind.i64.wrap ((j2 : Int) + 1) = (j3 : Int) := by rw [IntKind.wrap_i64]; omega
   have hw4 : IntKind.i64.wrap ((j3 : Int) + 1) = (j4 : Int) := by rw [IntKind.wrap_i64]; omega
   have hw5 : IntKind.i64.wrap ((j4 : Int) + 1) = (j5 : Int) := by rw [IntKind.wrap_i64]; omega
   have hmk : markG j = ⟨j, (j1 : Int), markB j2, thr j3, markB j4⟩ := by rw [hj1, hj2, hj3, hj4]; rfl
   have hrem : ((j3 : Int) % 3 == 0) = thr j3 := rfl
   rw [hmk] at HX HC2
   have HM2 := hid fun W => markText_any j2 W (by omega) (by omega)
   have HM4 := hid fun W => markText_any j4 W (by omega) (by omega)
   have HJ5 := hid hj5
   have hj4b : j3 ≤ 4400000 := by omega
   have hql : ms.length ≤ 1000000 := by omega
   have HB := hid hb
   have hl5 := cellsG_len (mixG k m ms)
   generalize hcs : cellsG (mixG k m ms) = cs at *
   clear hcs
   generalize mat (mixG k m ms) m = p at *
   obtain ⟨z0, z1, z2, z3, z4⟩ := p
   obtain ⟨C0, C1, C2, C3, C4⟩ := hC
   dsimp only at C0 C1 C2 C3 C4 HX HC2
   clear hj hj1 hj2 hj3 hj4 hj5 hb hmk h1 h2
   generalize markB j2 = q2 at *
   generalize markB j4 = q4 at *
   obtain ⟨bb, hbb⟩ : ∃ bb, bb = thr j3 := ⟨_, rfl⟩
   rw [← hbb] at HX HC2 hrem
   clear hbb
   have hz : m * 5 + 4 < ms.length * 5 := by omega
   have e0 := (hr.cellAt (m * 5) (by omega)).trans C0
   have f0 := hr.frozenAt (m * 5)
   have r1 := (hr.stored (m * 5) (.int .i64 (j : Int))).1
   have e1 := (r1.cellAt (m * 5 + 1) (by omega)).trans ((List.getElem?_set_ne (by omega)).trans C1)
   have f1 := r1.frozenAt (m * 5 + 1)
   have r2 := (r1.stored (m * 5 + 1) (.int .i64 (j1 : Int))).1
   have G2 := hid (grown_same (grownBy_setCellAt wr g (m * 5) (.int .i64 (j : Int))) (grownBy_setCellAt _ g (m * 5 + 1) (.int .i64 (j1 : Int))))
   go_wp2_with fail
   refine (HM2.out _).mono ?_
   rintro e w3 ⟨rfl, hb3⟩
   have r3 := r2.kept (grown_of_below hb3) (.inr (by simp [Value.ownBlock]))
   have e2 := (r3.cellAt (m * 5 + 2) (by omega)).trans ((List.getElem?_set_ne (by omega)).trans ((List.getElem?_set_ne (by omega)).trans C2))
   have f2 := r3.frozenAt (m * 5 + 2)
   have r4 := (r3.stored (m * 5 + 2) (.string q2)).1
   have e3 := (r4.cellAt (m * 5 + 3) (by omega)).trans ((List.getElem?_set_ne (by omega)).trans ((List.getElem?_set_ne (by omega)).trans ((List.getElem?_set_ne (by omega)).trans C3)))
   have f3 := r4.frozenAt (m * 5 + 3)
   have r5 := (r4.stored (m * 5 + 3) (.bool bb)).1
   have G5 := hid (grown_same (grown_same (grown_same G2.out (grown_below' hb3)) (grownBy_setCellAt w3 g (m * 5 + 2) (.string q2))) (grownBy_setCellAt _ g (m * 5 + 3) (.bool bb)))
   clear e0 f0 e1 f1 hr r1 r2 r3 r4 hb3
   go_wp2_with fail
   refine (HM4.out _).mono ?_
   rintro e w6 ⟨rfl, hb6⟩
   have r6 := r5.kept (grown_of_below hb6) (.inr (by simp [Value.ownBlock]))
   have e4 := (r6.cellAt (m * 5 + 4) (by omega)).trans ((List.getElem?_set_ne (by omega)).trans ((List.getElem?_set_ne (by omega)).trans ((List.getElem?_set_ne (by omega)).trans ((List.getElem?_set_ne (by omega)).trans C4))))
   have f4 := r6.frozenAt (m * 5 + 4)
   have r7 := (r6.stored (m * 5 + 4) (.string q4)).1
   have G7 := hid (grown_same (grown_same G5.out (grown_below' hb6)) (grownBy_setCellAt w6 g (m * 5 + 4) (.string q4)))
   rw [HC2.out, HX.out] at r7
   have HR7 := hid r7
   clear e2 f2 e3 f3 r5 r6 r7 hb6
   go_wp2
   refine ⟨⟨m + 1, by omega, by go_num, by rw [HJ5.out, HJ.out]; go_num, HR7.out, grown_same HB.out G7.out⟩, by simp [intOf]; omega⟩
  ·obtain rfl : m = ms.length := by omega
   have HB := hid hb
   rw [mixG_all] at hr
   have HR := hid hr
   clear hb hr
   go_wp2
   go_ret
   exact ⟨rfl, HR.out, HB.out⟩
set_option maxRecDepth 100000 in
set_option maxHeartbeats 2000000 in
theorem heldMessageS_any (v : Value) (k n : Nat) (w : World) (hv : RdM w v (marksG k n)) (h1 : 1 ≤ k) (h2 : k + 5 * n ≤ 4400000) :
  Calls Tryz.prog 13 #[v, .int .i64 k] w fun e w' => e = .returned (.int .i64 ((k + 5 * n : Nat) : Int)) ∧ Below w.heap.size w w' := by
 obtain ⟨a, ca, rfl, hca⟩ := hv
 rw [marksG_len]
 rw [marksG_len] at hca
 have HC := hid hca
 have hec := enters_of Tryz.func31 (by kernel_rfl) rfl
 clear hca
 go_enter Tryz.func13, Tryz.ntmps13
 go_wp2
 go_loopw [1, 5] (fun x i wr => ∃ m : Nat, m ≤ n ∧ i = .int .i64 m ∧ x = .int .i64 ((k + 5 * m : Nat) : Int) ∧ Below w.heap.size w wr) (fun _ i _ => n - (intOf i).toNat)
 case atStart => exact ⟨0, Nat.zero_le _, rfl, rfl, Below.refl _ _⟩
 case round =>
  obtain ⟨m, hm, rfl, rfl, hb⟩ := hrel
  by_cases hlt : m < n
  ·obtain ⟨b, o, rfl, h5⟩ := HC.out m hlt
   rw [marksG_at k n m hlt] at h5
   obtain ⟨j, hj⟩ : ∃ j, j = k + 5 * m := ⟨_, rfl⟩
   rw [← hj] at h5 ⊢
   have HJ := hid hj
   obtain ⟨j1, hj1⟩ : ∃ j1, j1 = j + 1 := ⟨_, rfl⟩
   obtain ⟨j2, hj2⟩ : ∃ j2, j2 = j + 2 := ⟨_, rfl⟩
   obtain ⟨j3, hj3⟩ : ∃ j3, j3 = j + 3 := ⟨_, rfl⟩
   obtain ⟨j4, hj4⟩ : ∃ j4, j4 = j + 4 := ⟨_, rfl⟩
   obtain ⟨j5, hj5⟩ : ∃ j5, j5 = j + 5 := ⟨_, rfl⟩
   have hw1 : IntKind.i64.wrap ((j : Int) + 1) = (j1 : Int) := by rw [IntKind.wrap_i64]; omega
   have hw2 : IntKind.i64.wrap ((j1 : Int) + 1) = (j2 : Int) := by rw [IntKind.wrap_i64]; omega
   have hw3 : IntKind.i64.wrap ((j2 : Int) + 1) = (j3 : Int) := by rw [IntKind.wrap_i64]; omega
   have hw4 : IntKind.i64.wrap ((j3 : Int) + 1) = (j4 : Int) := by rw [IntKind.wrap_i64]; omega
   have hw5 : IntKind.i64.wrap ((j4 : Int) + 1) = (j5 : Int) := by rw [IntKind.wrap_i64]; omega
   have hmk : markG j = ⟨j, (j1 : Int), markB j2, thr j3, markB j4⟩ := by rw [hj1, hj2, hj3, hj4]; rfl
   have hrem : ((j3 : Int) % 3 == 0) = thr j3 := rfl
   rw [hmk] at h5
   have HM2 := hid fun W => markText_any j2 W (by omega) (by omega)
   have HM4 := hid fun W => markText_any j4 W (by omega) (by omega)
   have HJ5 := hid hj5
   have hj4b : j3 ≤ 4400000 := by omega
   have hql : n ≤ 1000000 := by omega
   obtain ⟨x0, x1, x2, x3, x4, x5⟩ := h5
   dsimp only at x1 x2 x3 x4 x5
   have c0 := (hb.cell (p := ⟨b, o + m * 5, none⟩) x0).trans x1
   have c1 := (hb.cell (p := ⟨b, o + m * 5 + 1, none⟩) x0).trans x2
   have HBR := hid x0
   have HBwr := hid hb
   have HC2 := hid ((hb.cell (p := ⟨b, o + m * 5 + 2, none⟩) x0).trans x3)
   have HC3 : Hid (∀ W, Below w.heap.size w W → W.cell? ⟨b, o + m * 5 + 3, none⟩ = some (.bool (thr j3))) := hid fun W h => (h.cell (p := ⟨b, o + m * 5 + 3, none⟩) x0).trans x4
   have HC4 : Hid (∀ W, Below w.heap.size w W → W.cell? ⟨b, o + m * 5 + 4, none⟩ = some (.string (markB j4))) := hid fun W h => (h.cell (p := ⟨b, o + m * 5 + 4, none⟩) x0).trans x5
   clear hj hj1 hj2 hj3 hj4 hj5 hb hmk h1 h2 x0 x1 x2 x3 x4 x5
   generalize markB j2 = q2 at *
   generalize markB j4 = q4 at *
   obtain ⟨bb, hbb⟩ : ∃ bb, bb = thr j3 := ⟨_, rfl⟩
   rw [← hbb] at HC3 hrem
   clear hbb
   have hS10 : wr.drew.cell? ⟨b, o + m * 5 + 2, none⟩ = some (.string q2) := HC2.out
   go_upto_region 10 with fail
   refine wp_region_held (S := fun w' => w'.cell? ⟨b, o + m * 5 + 2, none⟩ = some (.string q2)) (by kernel_rfl) ?_
   change wpAnyH _ _ _ _ _ _ _ _ (World.drew _)
   refine tkA 0 (.slice (some ⟨b, o, none⟩) n ca) rfl hS10 ?_
   refine tkA 1 (.int .i64 (m : Nat)) rfl hS10 ?_
   refine tkA 2 (.pointer (some ⟨b, o + m * 5, none⟩)) rfl hS10 ?_
   refine tkA 3 (.pointer (some ⟨b, o + m * 5 + 2, none⟩)) rfl hS10 ?_
   refine tkA 4 (.string q2) rfl hS10 ?_
   refine tkA 5 (.int .i64 (j2 : Nat)) rfl hS10 ?_
   refine held_one 6 (by kernel_rfl) (op_calls (f := 31) (args := #[.int .i64 j2]) rfl rfl (by go_simp) (HM2.out _) ?_)
   rintro e w1 ⟨rfl, hb1⟩
   have hb1' : Below wr.heap.size wr w1 := ⟨hb1.os, hb1.tape, hb1.output, hb1.size, hb1.block⟩
   have hT10 : w1.cell? ⟨b, o + m * 5 + 2, none⟩ = some (.string q2) := (hb1'.cell (p := ⟨b, o + m * 5 + 2, none⟩) (Nat.lt_of_lt_of_le HBR.out HBwr.out.size)).trans hS10
   have HBw1 := hid (HBwr.out.trans (hb1'.mono HBwr.out.size))
   clear hb1 hb1' hS10
   refine ⟨_, rfl, hT10, ?_⟩
   refine tkA 7 (.bool false) rfl hT10 ?_
   refine wpAnyH_done (by kernel_rfl) ?_ _
   clear hT10
   go_simp
   have c3 := HC3.out _ HBw1.out
   have HC4w1 := hid (HC4.out _ HBw1.out)
   have hS16 : w1.drew.cell? ⟨b, o + m * 5 + 4, none⟩ = some (.string q4) := HC4w1.out
   go_upto_region 16 with fail
   refine wp_region_held (S := fun w' => w'.cell? ⟨b, o + m * 5 + 4, none⟩ = some (.string q4)) (by kernel_rfl) ?_
   change wpAnyH _ _ _ _ _ _ _ _ (World.drew _)
   refine tkA 0 (.slice (some ⟨b, o, none⟩) n ca) rfl hS16 ?_
   refine tkA 1 (.int .i64 (m : Nat)) rfl hS16 ?_
   refine tkA 2 (.pointer (some ⟨b, o + m * 5, none⟩)) rfl hS16 ?_
   refine tkA 3 (.pointer (some ⟨b, o + m * 5 + 4, none⟩)) rfl hS16 ?_
   refine tkA 4 (.string q4) rfl hS16 ?_
   refine tkA 5 (.int .i64 (j4 : Nat)) rfl hS16 ?_
   refine held_one 6 (by kernel_rfl) (op_calls (f := 31) (args := #[.int .i64 j4]) rfl rfl (by go_simp) (HM4.out _) ?_)
   rintro e w2 ⟨rfl, hb1⟩
   have hb1' : Below w1.heap.size w1 w2 := ⟨hb1.os, hb1.tape, hb1.output, hb1.size, hb1.block⟩
   have hT16 : w2.cell? ⟨b, o + m * 5 + 4, none⟩ = some (.string q4) := (hb1'.cell (p := ⟨b, o + m * 5 + 4, none⟩) (Nat.lt_of_lt_of_le HBR.out HBw1.out.size)).trans hS16
   have HBw2 := hid (HBw1.out.trans (hb1'.mono HBw1.out.size))
   clear hb1 hb1' hS16
   refine ⟨_, rfl, hT16, ?_⟩
   refine tkA 7 (.bool false) rfl hT16 ?_
   refine wpAnyH_done (by kernel_rfl) ?_ _
   clear hT16
   go_simp
   go_wp2
   refine ⟨⟨m + 1, by omega, by go_num, by rw [HJ5.out, HJ.out]; go_num, HBw2.out⟩, by simp [intOf]; omega⟩
  ·obtain rfl : m = n := by omega
   go_wp2
   go_ret
   exact ⟨rfl, hb⟩
end Go.Proofs.YtkghbegdjeehaaaGreatDoor
/- (*impl.hunt).ask. -/
namespace Go.Proofs.YtkghbegdjeehaaaGreatDoor
open Go.RowKit
theorem Tryz.infoMsg : (Tryz.prog.info? 56).map (fun i => (i.zero, i.size, i.bytes)) = some (some (.agg #[.int .i64 0, .int .i64 0, .string ⟨#[]⟩, .bool false, .string ⟨#[]⟩]), 5, 56) := by kernel_rfl
/-- A question. -/
def msgOf (m : Nat × ByteArray) : Mg := ⟨0, ((m.1 + 1 : Nat) : Int), m.2, false, ⟨#[]⟩⟩
theorem cellsG_snoc (ms : Mgs) (q : Mg) : cellsG (ms ++ [q]) = cellsG ms ++ [.int .i64 q.fr, .int .i64 q.to, .string q.sum, .bool q.has, .string q.text] := by simp [cellsG]
/-- Who is asked for what is left is asked for what nobody is asked for. -/
theorem left_eq {qs : PV} {now wd : Int} {lacks : List ByteArray} (hok : ∀ i, i < qs.length → PrOk now wd (qp qs i)) (hw : 1 ≤ wd) (hl : ∀ s ∈ lacks, (s.size : Int) = wd) : (lacks.filter fun s => !askA qs s) = leftL (qs.map Prod.fst) lacks := by
 unfold leftL
 apply List.filter_congr
 intro s hs
 congr 1
 rw [Bool.eq_iff_iff, askA_iff, askd_iff, List.length_map]
 constructor
 ·rintro ⟨i, hi, h⟩
  refine ⟨i, hi, ?_, by rw [pat_fst1]; exact h⟩
  rw [pat_fst1]
  intro h0
  rcases (hok i hi).asked with ⟨_, h2⟩ | ⟨h2, _⟩
  ·have h3 := hl s hs
   rw [← h] at h3
   have h4 : (qp qs i).asked.size = 0 := by
    rw [ByteArray.toList_eq] at h2
    show (qp qs i).asked.data.size = 0
    rw [← Array.length_toList, h2]
    rfl
   omega
  ·omega
 ·rintro ⟨i, hi, _, h⟩
  rw [pat_fst1] at h
  exact ⟨i, hi, h⟩
/-- What lies in a hunt that is asking. -/
structure AskAt (w : World) (N B C1 C2 hb pm sb mb : Nat) (vc : Value) (nm : ByteArray) (now : Int) (full : Bool) (wd room : Int) (its : Itms) (ts : List ByteArray) (qs : PV) (pbs : List Nat) (vl : Value) (bx : Nat) (v vm vk : Value) (ls : List ByteArray) (ms : Mgs) (ord : List Nat) : Prop where
 hunt : HuntAt w B C1 C2 hb pm sb mb vc nm now full wd room its ts qs pbs vl true
 lies : Lies N C2 qs pbs
 box : Blk w bx 23 #[v]
 left : w.ownsRow N 9 1 v ls.length (ls.map Value.string)
 sent : MsgOwn w N vm ms
 nums : w.ownsRow N 3 1 vk ord.length (ord.map fun i => Value.int .i64 ((i + 1 : Nat) : Int))
 nbx : N ≤ bx
 le : N ≤ w.heap.size
section
variable {w w' : World} {N B C1 C2 hb pm sb mb : Nat} {vc : Value} {nm : ByteArray} {now : Int} {full : Bool} {wd room : Int} {its : Itms} {ts : List ByteArray} {qs : PV} {pbs : List Nat} {vl : Value} {bx : Nat} {v vm vk : Value} {ls : List ByteArray} {ms : Mgs} {ord : List Nat}
theorem AskAt.below (H : AskAt w N B C1 C2 hb pm sb mb vc nm now full wd room its ts qs pbs vl bx v vm vk ls ms ord) (T : Below w.heap.size w w') : AskAt w' N B C1 C2 hb pm sb mb vc nm now full wd room its ts qs pbs vl bx v vm vk ls ms ord :=
 ⟨H.hunt.later T, H.lies, H.box.below T, Below.row T H.left, Below.row T H.sent, Below.row T H.nums, H.nbx, Nat.le_trans H.le T.size⟩
/-- One text of those left has been taken. -/
theorem AskAt.took {v' : Value} {ls' : List ByteArray} (H : AskAt w N B C1 C2 hb pm sb mb vc nm now full wd room its ts qs pbs vl bx v vm vk ls ms ord) (T : But (fun b => b = bx ∨ v.ownBlock = some b) w w') (hbx : Blk w' bx 23 #[v']) (hr : w'.ownsRow N 9 1 v' ls'.length (ls'.map Value.string)) : AskAt w' N B C1 C2 hb pm sb mb vc nm now full wd room its ts qs pbs vl bx v' vm vk ls' ms ord := by
 have hP : ∀ b, (b = bx ∨ v.ownBlock = some b) → N ≤ b := fun b h => h.elim (fun e => e ▸ H.nbx) (fun e => (H.left.lt b e).1)
 refine ⟨H.hunt.fresh H.lies T hP, H.lies, hbx, hr, T.row H.sent fun g e h => ?_, T.row H.nums fun g e h => ?_, H.nbx, Nat.le_trans H.le T.size⟩
 ·rcases h with h | h
  ·exact row_off_blk H.sent H.box (by decide) (by rw [e, h])
  ·exact rows_off H.sent H.left (by decide) e h
 ·rcases h with h | h
  ·exact row_off_blk H.nums H.box (by decide) (by rw [e, h])
  ·exact rows_off H.nums H.left (by decide) e h
/-- A peer has been asked. -/
theorem AskAt.put {i : Nat} {p' : Pr} (H : AskAt w N B C1 C2 hb pm sb mb vc nm now full wd room its ts qs pbs vl bx v vm vk ls ms ord) (hi : i < qs.length) (hn : p'.nots = (qp qs i).nots) (T : But (fun b => b = pbs.getD i 0) w w') (pblk : Blk w' (pbs.getD i 0) 50 (pcells p' (qv qs i))) : AskAt w' N B C1 C2 hb pm sb mb vc nm now full wd room its ts (qs.set i (p', qv qs i)) pbs vl bx v vm vk ls ms ord := by
 have hpb := H.lies.pb i hi
 have hq : ∀ j, qv (qs.set i (p', qv qs i)) j = qv qs j := fun j => by
  rw [qv_put qs i j _ hi]; split
  ·next e => rw [e]
  ·rfl
 refine ⟨H.hunt.peer hi hn T pblk, ⟨H.lies.c2, fun j hj => H.lies.pb j (by rw [List.length_set] at hj; exact hj), fun j hj g e => H.lies.nt j (by rw [List.length_set] at hj; exact hj) g (by rw [hq] at e; exact e)⟩, T.blk H.box (by have := H.nbx; omega), T.row H.left (fun g e h => by have := (H.left.lt g e).1; omega), T.row H.sent (fun g e h => by have := (World.ownsRow.lt H.sent g e).1; omega), T.row H.nums (fun g e h => by have := (H.nums.lt g e).1; omega), H.nbx, Nat.le_trans H.le T.size⟩
/-- One question more. -/
theorem AskAt.sendit {vm' : Value} {q : Mg} {o : Obj} (H : AskAt w N B C1 C2 hb pm sb mb vc nm now full wd room its ts qs pbs vl bx v vm vk ls ms ord) (hg : (w.alloc o).grownBy w' vm.ownBlock) (hr : w'.ownsRow N 56 5 vm' (ms.length + 1) (cellsG ms ++ [.int .i64 q.fr, .int .i64 q.to, .string q.sum, .bool q.has, .string q.text])) : AskAt w' N B C1 C2 hb pm sb mb vc nm now full wd room its ts qs pbs vl bx v vm' vk ls (ms ++ [q]) ord := by
 have D : Below w.heap.size w (w.alloc o) := (Below.refl _ _).alloc (Nat.le_refl _) _
 have H1 := H.below D
 have T : But (fun b => vm.ownBlock = some b) (w.alloc o) w' := ⟨hg.os, hg.tape, hg.output, hg.size, fun k hk hn => hg.block k hk (fun e => hn e.symm)⟩
 have hP : ∀ b, vm.ownBlock = some b → N ≤ b := fun b e => (World.ownsRow.lt H1.sent b e).1
 refine ⟨H1.hunt.fresh H1.lies T hP, H1.lies, T.blk H1.box (fun e => row_off_blk H1.sent H1.box (by decide) e), T.row H1.left (fun g e h => rows_off H1.sent H1.left (by decide) h e), ?_, T.row H1.nums (fun g e h => rows_off H1.sent H1.nums (by decide) h e), H.nbx, Nat.le_trans H1.le T.size⟩
 unfold MsgOwn
 rw [List.length_append, cellsG_snoc]
 exact hr
end
end Go.Proofs.YtkghbegdjeehaaaGreatDoor
/- (*impl.hunt).ask, its walk. -/
namespace Go.Proofs.YtkghbegdjeehaaaGreatDoor
open Go.RowKit
theorem askN_next (now : Int) (lacks : List ByteArray) (ps : Prs) (ord : List Nat) (k : Nat) (h : k < ord.length) : askN now lacks ps (ord.take (k + 1)) = askS now lacks (askN now lacks ps (ord.take k)) ord[k] := by
 rw [List.take_succ_eq_append_getElem h, askN_snoc]
/-- What ask answers. -/
def AskP (B C1 C2 hb pm sb mb : Nat) (vc : Value) (nm : ByteArray) (now : Int) (full : Bool) (wd room : Int) (its : Itms) (ts : List ByteArray) (qs : PV) (pbs : List Nat) (w : World) (e : Ending) (w' : World) : Prop :=
 ∃ vm lacks ord qs' vl, e = .returned vm ∧ LackU wd its nm lacks ∧ Turns (qs.map Prod.fst) ord ∧ qs'.map Prod.fst = (askN now lacks (qs.map Prod.fst) ord).1 ∧ MsgOwn w' w.heap.size vm ((askN now lacks (qs.map Prod.fst) ord).2.map msgOf) ∧ HuntAt w' B C1 C2 hb pm sb mb vc nm now full wd room its ts qs' pbs vl true ∧ But (fun b => b = hb ∨ ∃ i, i < qs.length ∧ b = pbs.getD i 0) w w'
set_option maxRecDepth 100000 in
set_option maxHeartbeats 8000000 in
theorem ask_any (B C1 C2 hb pm sb mb : Nat) (vc : Value) (nm : ByteArray) (now : Int) (full : Bool) (wd room : Int) (its : Itms) (ts : List ByteArray) (qs : PV) (pbs : List Nat) (w : World) (H : HuntAt w B C1 C2 hb pm sb mb vc nm now full wd room its ts qs pbs (.slice none 0 0) false) (hok : ∀ i, i < qs.length → PrOk now wd (qp qs i)) (hct : qs.length ≤ 5) (hw : 1 ≤ wd ∧ wd ≤ 8) (hnw : (nm.size : Int) = wd) (hnow : 0 ≤ now ∧ now ≤ 1000000) (hN : (sumsL wd its).Pairwise (· < ·)) (hsi : ∀ i, (itx its i).size ≤ 1048576) (hE : Errs w) :
  Calls Tryz.prog 53 #[.pointer (some ⟨hb, 0, none⟩)] w (AskP B C1 C2 hb pm sb mb vc nm now full wd room its ts qs pbs w) := by
 obtain ⟨i0, hi0, hz0, hz1, hz2⟩ := info_parts Tryz.infoMsg
 have HH := hid H
 have HU := hid H.under
 have HCH := hid (chooser_any B C1 C2 hb pm sb mb vc nm now full wd room its ts qs pbs w H hN (by omega) hsi hE)
 have HOK := hid hok
 have hec := enters_of Tryz.func92 (by kernel_rfl) rfl
 clear H hN hsi hE hok
 go_enter Tryz.func53, Tryz.ntmps53
 go_wp2_with fail
 refine HCH.out.mono ?_
 rintro e w1 ⟨bx, vl, v1, lacks, rfl, hlu, X1, R1, hbx, H1, T1⟩
 have hsz := hlu.sizes hnw
 rw [left_eq HOK.out (by omega) hsz] at R1
 have hnod := hlu.nodup
 have hfew := hlu.few.1
 have hs1 := T1.size
 have HAS := hid (askable_any hb pm sb mb vc nm now full wd room _ its ts qs pbs vl true w1 H1.rd hct)
 have HLU := hid hlu
 have HSZ := hid hsz
 have HND := hid hnod
 have HX1 := hid X1
 have HR1 := hid R1
 have HH1 := hid H1
 have HT1 := hid T1
 clear hlu X1 R1 H1 T1 hsz hnod
 go_wp2_with fail
 refine HAS.out.mono ?_
 rintro e w2 ⟨vk, ord, rfl, hT, RK, hb2⟩
 have hol := hT.len
 rw [List.length_map] at hol
 obtain ⟨ak, ck, hvk⟩ := row_any RK
 subst hvk
 have A2 : AskAt w2 w.heap.size B C1 C2 hb pm sb mb vc nm now full wd room its ts qs pbs vl bx v1 (.slice none 0 0) (.slice ak ord.length ck) (leftL (qs.map Prod.fst) lacks) [] ord := ⟨HH1.out.later hb2, HU.out, HX1.out.below hb2, Below.row hb2 HR1.out, World.ownsRow_nil _ _ _ _, ownsRow_base RK hs1, hbx, Nat.le_trans hs1 hb2.size⟩
 have HA2 := hid A2
 have HT := hid hT
 have HB2 : Hid (But (fun b => b = hb ∨ ∃ i, i < qs.length ∧ b = pbs.getD i 0) w w2) := hid ((HT1.out.trans (But.of_below (P := fun _ => False) hb2) (fun _ _ h => h.elim)).mono (fun b _ h => .inl h))
 clear A2 hT RK hb2
 go_wp2
 go_loopw [3, 15] (fun vm' i' wr => ∃ (k : Nat) (qs' : PV) (v vm : Value), vm' = vm ∧ k ≤ ord.length ∧ i' = .int .i64 k ∧ qs'.length = qs.length ∧ qs'.map Prod.fst = (askN now lacks (qs.map Prod.fst) (ord.take k)).1 ∧ AskAt wr w.heap.size B C1 C2 hb pm sb mb vc nm now full wd room its ts qs' pbs vl bx v vm (.slice ak ord.length ck) (leftL (askN now lacks (qs.map Prod.fst) (ord.take k)).1 lacks) ((askN now lacks (qs.map Prod.fst) (ord.take k)).2.map msgOf) ord ∧ But (fun b => b = hb ∨ ∃ i, i < qs.length ∧ b = pbs.getD i 0) w wr) (fun _ i' _ => ord.length - (intOf i').toNat)
 case atStart => exact ⟨0, qs, v1, _, rfl, Nat.zero_le _, rfl, rfl, rfl, HA2.out, HB2.out⟩
 case round =>
  obtain ⟨k, qs', v, vm, rfl, hk, rfl, hql, hqs, hat, hbt⟩ := hrel
  obtain ⟨am, cm, hvm⟩ := row_any hat.sent
  rw [List.length_map] at hvm
  subst hvm
  have HQS := hid hqs
  have HAT := hid hat
  have HBT := hid hbt
  by_cases hlt : k < ord.length
  case neg =>
   obtain rfl : k = ord.length := by omega
   rw [List.take_length] at hqs hat
   have HP : Hid (AskP B C1 C2 hb pm sb mb vc nm now full wd room its ts qs pbs w (.returned (.slice am (askN now lacks (qs.map Prod.fst) (ord.take ord.length)).2.length cm)) wr) := hid ⟨_, lacks, ord, qs', vl, by rw [List.take_length], HLU.out, HT.out, hqs, hat.sent, hat.hunt, hbt⟩
   clear hqs hat hbt
   go_wp2
   go_ret
   exact HP.out
  obtain ⟨st, hst⟩ : ∃ st, st = askN now lacks (qs.map Prod.fst) (ord.take k) := ⟨_, rfl⟩
  obtain ⟨i, hi⟩ : ∃ i, i = ord[k] := ⟨_, rfl⟩
  have hnext := askN_next now lacks (qs.map Prod.fst) ord k hlt
  rw [← hst, ← hi] at hnext
  have hmem := (HT.out.mem i).1 (by rw [hi]; exact List.getElem_mem hlt)
  rw [List.length_map, pat_fst1] at hmem
  have hnot : i ∉ ord.take k := by
   have h1 := HT.out.nodup
   rw [← List.take_append_drop k ord] at h1
   intro h2
   exact (List.nodup_append.1 h1).2.2 i h2 i (by rw [List.drop_eq_getElem_cons hlt, hi]; exact List.mem_cons_self) rfl
  have hwait : (pat st.1 i).wait = 0 := by
   rw [hst, askN_other _ _ _ _ _ hnot, pat_fst1]
   exact hmem.2.1
  have hsl : st.1.length = qs.length := by rw [hst, askN_len, List.length_map]
  have hpr : ∀ j, j < st.1.length → PrOk now wd (pat st.1 j) := by
   rw [hst]
   exact fold_ok hnow.1 HSZ.out (ord.take k) (qs.map Prod.fst, []) (fun j hj => by rw [pat_fst1]; exact HOK.out j (by simpa using hj))
  rw [← hst] at hqs hat ⊢
  obtain ⟨sp, so⟩ := st
  dsimp only at hqs hat hwait hsl hpr hnext ⊢
  have hil := hmem.1
  have hiq : i < qs'.length := by omega
  have hqi : qp qs' i = pat sp i := by rw [← hqs, pat_fst1]
  have hpi := hpr i (by omega)
  have HNX := hid hnext
  have HHIT := hid fun a ha h1 h2 => ask_hit (ps := sp) (out := so) (lacks := lacks) (k := i) (now := now) (i := a) ha h1 h2
  have HMISS := hid (ask_miss (ps := sp) (out := so) (lacks := lacks) (k := i) (now := now))
  have HPUT := hid fun a (ha : a < (leftL sp lacks).length) => left_put (ps := sp) (now := now) HND.out (k := i) (by omega) hwait ha
  have hll : (leftL sp lacks).length ≤ 1000 := Nat.le_trans (List.length_filter_le _ _) (by omega)
  have hsl2 : ∀ a, a < (leftL sp lacks).length → (tv (leftL sp lacks) a).size ≤ 8 := fun a ha => by
   have h1 : tv (leftL sp lacks) a ∈ lacks := (List.mem_filter.1 (show tv (leftL sp lacks) a ∈ leftL sp lacks by simp [tv, ha])).1
   have := HSZ.out _ h1
   omega
  have hnots := Reads.of_row (hat.hunt.peers.nots i hiq)
  have hpblk := (hat.hunt.peers.blk i hiq).2
  rw [hqi] at hnots hpblk
  have HCC := hid fun (W : World) (h1 : Blk W (pbs.getD i 0) 50 (pcells (pat sp i) (qv qs' i))) (h2 : Reads W (qv qs' i) (pat sp i).nots) (h3 : Blk W bx 23 #[v]) (h4 : W.ownsRow w.heap.size 9 1 v (leftL sp lacks).length ((leftL sp lacks).map Value.string)) => chooserC_any (pbs.getD i 0) bx w.heap.size (pat sp i) (qv qs' i) v (leftL sp lacks) W h1 h2 (okSums_asc hpi.nots) (by have := hpi.many; omega) h3 h4 hll
  have HC1 := hid (HCC.out wr hpblk hnots hat.box hat.left)
  have hlk := look_peer hat.hunt.peers.map (i + 1) (by omega) (by omega) (by omega)
  rw [Nat.add_sub_cancel] at hlk
  have x4 : wr.cell? ⟨hb, 4, none⟩ = some (.map (some pm)) := hat.hunt.box.cell 4
  obtain ⟨gk, capk, evk, _, _⟩ := World.ownsRow.form hat.nums (by omega)
  obtain ⟨rfl, _, rfl⟩ : ak = some ⟨gk, 0, none⟩ ∧ ord.length = ord.length ∧ ck = capk := Value.slice.inj evk
  obtain ⟨x, hx⟩ : ∃ x, x = ((i + 1 : Nat) : Int) := ⟨_, rfl⟩
  have cx : wr.cell? ⟨gk, k, none⟩ = some (.int .i64 x) := by rw [hat.nums.cellAt k (by simp; omega), hx, hi]; simp [hlt]
  rw [← hx] at hlk
  have HX := hid hx
  have HHI := hid hi
  have HQI := hid hqi
  have HSL2 := hid hsl2
  have HAT1 := hid hat
  have HQS1 := hid hqs
  have HST := hid hst
  have hso : so.length ≤ 5 := by
   have h1 := askN_out now lacks (qs.map Prod.fst) (ord.take k)
   rw [← hst] at h1
   have h2 := List.length_take_le k ord
   have h3 : so.length ≤ (ord.take k).length := h1
   omega
  clear hqs hat hbt hnext hmem hnot hpr hpi hnots hpblk evk hx hi hqi hsl2 hst HAT HQS hwait
  obtain ⟨pb, hpb⟩ : ∃ b, b = pbs.getD i 0 := ⟨_, rfl⟩
  rw [← hpb] at hlk HC1
  have HPB := hid hpb
  clear hpb
  go_wp2_with fail
  refine HC1.out.mono ?_
  rintro e w5 (⟨rfl, hall, hb5⟩ | ⟨a, v5, ha, rfl, hna, hbef, X5, R5, _, T5⟩)
  ·have HM := hid (HMISS.out hall)
   have HA5 := hid (HAT1.out.below hb5)
   have HB5 := hid (HBT.out.trans (But.of_below (P := fun _ => False) hb5) (fun _ _ h => h.elim))
   clear hall hb5 hlk x4 cx
   go_wp2
   refine ⟨⟨k + 1, qs', v, _, rfl, by omega, by go_simp, hql, ?_, ?_, HB5.out⟩, ?_⟩
   ·rw [HNX.out, HM.out]; exact HQS1.out
   ·rw [HNX.out, HM.out]; exact HA5.out
   ·simp [intOf]
    omega
  ·have HHT := hid (HHIT.out a ha hna hbef)
   have HPT := hid (HPUT.out a ha)
   have hs8 := HSL2.out a ha
   have A5 := HAT1.out.took T5 X5 R5
   have HT5 : Hid (But (fun b => b = hb ∨ ∃ i, i < qs.length ∧ b = pbs.getD i 0) w w5) := hid (HBT.out.trans T5 (fun b hb' h => h.elim (fun e => by omega) (fun e => by have := (HAT1.out.left.lt b e).1; omega)))
   have P5 := (A5.hunt.peers.blk i hiq).2
   rw [HQI.out, ← HPB.out] at P5
   have y1 : w5.cell? ⟨hb, 1, none⟩ = some (.int .i64 now) := A5.hunt.box.cell 1
   obtain ⟨s, hs⟩ : ∃ s, s = tv (leftL sp lacks) a := ⟨_, rfl⟩
   rw [← hs] at HHT HPT hs8 ⊢
   have HS := hid hs
   obtain ⟨pp, hpp⟩ : ∃ p, p = pat sp i := ⟨_, rfl⟩
   rw [← hpp] at P5 HHT HPT
   have HPP := hid hpp
   obtain ⟨pl, pw, pt, pa, pn⟩ := pp
   obtain ⟨vn, hvn⟩ : ∃ v, v = qv qs' i := ⟨_, rfl⟩
   rw [← hvn] at P5
   have HVN := hid hvn
   have P6 : Blk (w5.setCell ⟨pb, 3, none⟩ (.string s)) pb 50 #[.int .i64 pl, .int .i64 pw, .int .i64 pt, .string s, vn] := P5.set 3 (.string s)
   have P7 : Blk ((w5.setCell ⟨pb, 3, none⟩ (.string s)).setCell ⟨pb, 1, none⟩ (.int .i64 5)) pb 50 #[.int .i64 pl, .int .i64 5, .int .i64 pt, .string s, vn] := P6.set 1 (.int .i64 5)
   have P8 : Blk (((w5.setCell ⟨pb, 3, none⟩ (.string s)).setCell ⟨pb, 1, none⟩ (.int .i64 5)).setCell ⟨pb, 2, none⟩ (.int .i64 now)) pb 50 #[.int .i64 pl, .int .i64 5, .int .i64 now, .string s, vn] := P7.set 2 (.int .i64 now)
   have e3 : w5.cell? ⟨pb, 3, none⟩ = some (.string pa) := P5.cell 3
   have f3 := P5.fz 3
   have e1 : (w5.setCell ⟨pb, 3, none⟩ (.string s)).cell? ⟨pb, 1, none⟩ = some (.int .i64 pw) := P6.cell 1
   have f1 := P6.fz 1
   have e2 : ((w5.setCell ⟨pb, 3, none⟩ (.string s)).setCell ⟨pb, 1, none⟩ (.int .i64 5)).cell? ⟨pb, 2, none⟩ = some (.int .i64 pt) := P7.cell 2
   have f2 := P7.fz 2
   have T8 := But.of_grown (P := fun b => b = pbs.getD i 0) (grown_same (grown_same (grownBy_setCellAt w5 pb 3 (.string s)) (grownBy_setCellAt _ pb 1 (.int .i64 5))) (grownBy_setCellAt _ pb 2 (.int .i64 now))) HPB.out
   have A8 := A5.put (p' := askP ⟨pl, pw, pt, pa, pn⟩ now s) hiq (by rw [HQI.out, ← hpp]; rfl) T8 (by rw [← HPB.out, ← hvn]; exact P8)
   have HT8 := hid (HT5.out.trans T8 (fun b _ e => .inr ⟨i, hil, e⟩))
   have HA8 := hid A8
   have HCLN := hid fun W => stringsClone_any s W (by omega)
   clear hna hbef X5 R5 T5 A5 P5 P6 P7 P8 T8 A8 hlk x4 cx hs hpp hvn ha
   go_wp2_with fail
   obtain ⟨w8, hw8⟩ : ∃ x, x = ((w5.setCell ⟨pb, 3, none⟩ (.string s)).setCell ⟨pb, 1, none⟩ (.int .i64 5)).setCell ⟨pb, 2, none⟩ (.int .i64 now) := ⟨_, rfl⟩
   rw [← hw8] at HT8 HA8 ⊢
   clear hw8 e3 f3 e1 f1 e2 f2 y1
   refine (HCLN.out w8).mono ?_
   rintro e w9 ⟨rfl, hb9⟩
   have A9 := HA8.out.below hb9
   have hown := A9.sent
   unfold MsgOwn at hown
   rw [List.length_map] at hown
   have hs9 := A9.le
   have HA9 := hid A9
   have HT9 := hid (HT8.out.trans (But.of_below (P := fun _ => False) hb9) (fun _ _ h => h.elim))
   clear A9 hb9
   go_wp2_with (at_builtin; refine wpList_append_own _ rfl _ _ 36 rfl w.heap.size 56 i0 (.agg #[.int .i64 0, .int .i64 0, .string ⟨#[]⟩, .bool false, .string ⟨#[]⟩]) 5 56 Tryz.underlying36 hi0 hz0 hz1 hz2 rfl (by decide) (.slice am so.length cm) so.length (cellsG (so.map msgOf)) rfl (hown.alloc _) ⟨_, 0, none⟩ 1 1 [.int .i64 0, .int .i64 x, .string s, .bool false, .string ⟨#[]⟩] rfl rfl (five_new _ _ _ _ _ _ _) (by simp [Value.oneCell']) (by unfold maxLen; omega) (by omega) (by simp; omega) ?_; intro v' w10 hown' hgrow _)
   have A10 := HA9.out.sendit (q := msgOf (i, s)) hgrow (by rw [List.length_map]; show w10.ownsRow _ _ _ _ _ (_ ++ [.int .i64 0, .int .i64 ((i + 1 : Nat) : Int), .string s, .bool false, .string ⟨#[]⟩]); rw [← HX.out]; exact hown')
   have T10 : But (fun b => (Value.slice am so.length cm).ownBlock = some b) (w9.alloc (.cells #[.int .i64 0, .int .i64 x, .string s, .bool false, .string ⟨#[]⟩] 56)) w10 := ⟨hgrow.os, hgrow.tape, hgrow.output, hgrow.size, fun k hk hn => hgrow.block k hk (fun e => hn e.symm)⟩
   have HT10 := hid ((HT9.out.trans (But.of_below (P := fun _ => False) ((Below.refl w9.heap.size w9).alloc (Nat.le_refl _) (.cells #[.int .i64 0, .int .i64 x, .string s, .bool false, .string ⟨#[]⟩] 56))) (fun _ _ h => h.elim)).trans T10 (fun b hb' e => by have := (hown.lt b e).1; omega))
   have HA10 := hid A10
   clear A10 T10 hown hown' hgrow
   go_wp2
   refine ⟨⟨k + 1, qs'.set i (askP ⟨pl, pw, pt, pa, pn⟩ now s, qv qs' i), v5, v', rfl, by omega, by go_simp, by rw [List.length_set]; exact hql, ?_, ?_, HT10.out⟩, ?_⟩
   ·rw [HNX.out, HHT.out, fst_set, HQS1.out]
   ·rw [HNX.out, HHT.out]
    show AskAt w10 _ _ _ _ _ _ _ _ _ _ _ _ _ _ _ _ _ _ _ _ _ _ _ (leftL (sp.set i (askP ⟨pl, pw, pt, pa, pn⟩ now s)) lacks) ((so ++ [(i, s)]).map msgOf) _
    rw [List.map_append, ← HPT.out]
    exact HA10.out
   ·simp [intOf]
    omega
end Go.Proofs.YtkghbegdjeehaaaGreatDoor
/- (*impl.hunt).tick. -/
namespace Go.Proofs.YtkghbegdjeehaaaGreatDoor
open Go.RowKit
theorem waitP_nots (p : Pr) : (waitP p).nots = p.nots := by
 unfold waitP
 split
 ·rfl
 ·split <;> rfl
/-- What tick answers. -/
def TickP (B hb pm sb mb : Nat) (vc : Value) (nm : ByteArray) (now : Int) (full : Bool) (wd room tot : Int) (its : Itms) (ts : List ByteArray) (qs : PV) (pbs : List Nat) (w : World) (e : Ending) (w' : World) : Prop :=
 ∃ vm now' qs' out vl lk, e = .returned vm ∧ TickS nm now full wd its (qs.map Prod.fst) now' (qs'.map Prod.fst) out ∧ MsgOwn w' w.heap.size vm (out.map msgOf) ∧ HuntRd w' hb pm sb mb vc nm now' full wd room tot its ts qs' pbs vl lk ∧ Below B w w'
set_option maxRecDepth 100000 in
set_option maxHeartbeats 8000000 in
theorem huntTick_any (B C1 C2 hb pm sb mb : Nat) (vc : Value) (nm : ByteArray) (now : Int) (full : Bool) (wd room : Int) (its : Itms) (ts : List ByteArray) (qs : PV) (pbs : List Nat) (w : World) (H : HuntAt w B C1 C2 hb pm sb mb vc nm now full wd room its ts qs pbs (.slice none 0 0) false) (hVF : ValidF nm now wd room its ts (qs.map Prod.fst)) (hE : ∀ W, Below B w W → Errs W) (hBw : B ≤ w.heap.size) :
  Calls Tryz.prog 24 #[.pointer (some ⟨hb, 0, none⟩)] w (TickP B hb pm sb mb vc nm now full wd room (totI (its.take its.length) : Nat) its ts qs pbs w) := by
 have htime := hVF.time
 have hcnt := hVF.count
 rw [List.length_map] at hcnt
 have hw8 : 1 ≤ wd ∧ wd ≤ 8 := by have := hVF.store.width; simpa [isW] using this
 have hok : ∀ i, i < qs.length → PrOk now wd (qp qs i) := fun i hi => by have := hVF.each i (by rw [List.length_map]; exact hi); rwa [pat_fst1] at this
 have HOK := hid hok
 have HVF := hid hVF
 have HE := hid hE
 have HH := hid H
 have x1 : w.cell? ⟨hb, 1, none⟩ = some (.int .i64 now) := H.box.cell 1
 have hcb : B ≤ hb := by have := H.b6; have := H.b1; omega
 have HPB : Hid (∀ b, (b = hb ∨ ∃ i, i < qs.length ∧ b = pbs.getD i 0) → B ≤ b) := hid fun b h => h.elim (fun e => by omega) (fun ⟨i, hi, e⟩ => by have := (HH.out.peers.blk i hi).1; have := HH.out.b3; omega)
 by_cases hmax : now = 1000000
 ·have e0 : (now == 1000000) = true := by simpa using hmax
  have HP : Hid (TickP B hb pm sb mb vc nm now full wd room (totI (its.take its.length) : Nat) its ts qs pbs w (.returned (.slice none 0 0)) w) := hid ⟨_, now, qs, [], _, _, rfl, .inl ⟨by omega, rfl, rfl, rfl⟩, World.ownsRow_nil _ _ _ _, H.rd, Below.refl _ _⟩
  clear hmax hVF hE H hok
  go_enter Tryz.func24, Tryz.ntmps24
  go_wp2
  go_ret
  exact HP.out
 have e0 : (now == 1000000) = false := by simpa using hmax
 have hlt : now < 1000000 := by omega
 have f1 := H.box.fz 1
 have X1 : Blk (w.setCell ⟨hb, 1, none⟩ (.int .i64 (now + 1))) hb 95 #[.string nm, .int .i64 (now + 1), .bool full, .pointer (some ⟨sb, 0, none⟩), .map (some pm), .slice none 0 0, .bool false] := H.box.set 1 (.int .i64 (now + 1))
 have T1 := But.of_grown (P := fun b => b = hb) (grownBy_setCellAt w hb 1 (.int .i64 (now + 1))) rfl
 have H1 := H.boxed T1 X1
 have hwr : IntKind.i64.wrap (now + 1) = now + 1 := by rw [IntKind.wrap_i64]; omega
 have HU := hid H.under
 obtain ⟨w1, hw1⟩ : ∃ x, x = w.setCell ⟨hb, 1, none⟩ (.int .i64 (now + 1)) := ⟨_, rfl⟩
 have hz1 : w1.heap.size = w.heap.size := by rw [hw1]; simp
 rw [← hw1] at X1 T1 H1
 have hs1 : w1.heap.size ≤ w.heap.size := by omega
 have hs1b : w.heap.size ≤ w1.heap.size := by omega
 have HH1 := hid H1
 have HT1 := hid T1
 have x4 : w1.cell? ⟨hb, 4, none⟩ = some (.map (some pm)) := H1.box.cell 4
 have hmm := H1.peers.map
 clear hVF hE H hok X1 T1 H1 hz1 hmax
 go_enter Tryz.func24, Tryz.ntmps24
 go_upto_region 4 with fail
 rw [← hw1]
 clear hw1 x1 f1
 go_wp2_with (at_range; refine wpList_range_own _ rfl _ 93 rfl 3 98 keyed3 Tryz.underlying93 _ pm qs.length _ rfl hmm ?_; intro w3 hrg0 hg0 hs0)
 go_frame
 have HRG0 := hid hrg0
 have B0 : Below w1.heap.size w1 w3 := ⟨hg0.os, hg0.tape, hg0.output, hg0.size, fun k hk => hg0.block k hk (by simp)⟩
 have HH3 := hid (HH1.out.later B0)
 have HT3 : Hid (But (fun b => b = hb ∨ ∃ i, i < qs.length ∧ b = pbs.getD i 0) w w3) := hid ((HT1.out.trans (But.of_below (P := fun _ => False) B0) (fun _ _ h => h.elim)).mono (fun b _ h => .inl h))
 have hw3 : w1.heap.size + 1 ≤ w3.heap.size := by omega
 clear hmm hrg0 hg0 hs0 x4 B0
 go_loopw [] (fun wr => ∃ (left : Lit → Bool) (cnt : Nat) (qs' : PV), wr.ranges Tryz.prog 3 ptrElem pm w1.heap.size qs.length (mapP pbs qs.length) left cnt ∧ (∀ k, left k = true → Maps.has (mapP pbs qs.length) k = true) ∧ qs'.length = qs.length ∧ (∀ i, qv qs' i = qv qs i) ∧ (∀ i, i < qs.length → qp qs' i = if left (.int .i64 ((i + 1 : Nat) : Int)) = true then qp qs i else waitP (qp qs i)) ∧ HuntAt wr B C1 C2 hb pm sb mb vc nm (now + 1) full wd room its ts qs' pbs (.slice none 0 0) false ∧ But (fun b => b = hb ∨ ∃ i, i < qs.length ∧ b = pbs.getD i 0) w wr) (fun wr => wr.rangeLeft pm w1.heap.size)
 case atStart => exact ⟨_, _, qs, HRG0.out, fun _ h => h, rfl, fun _ => rfl, fun i hi => by rw [mapP_in pbs (i + 1) (by omega) qs.length (by omega), if_pos rfl], HH3.out, HT3.out⟩
 case round =>
  obtain ⟨left, cnt, qs', hrg, hsub, hql, hqv, hqp, hh, hbt⟩ := hrel
  have HRG := hid hrg
  have HSUB := hid hsub
  have HQV := hid hqv
  have HQP := hid hqp
  have HHR := hid hh
  have HBT := hid hbt
  have HLS : Hid (Lies w.heap.size C2 qs' pbs) := hid ⟨HU.out.c2, fun i hi => HU.out.pb i (by omega), fun i hi g e => HU.out.nt i (by omega) g (by rw [hqv i] at e; exact e)⟩
  clear hsub hqv hqp hh hbt
  go_wp2_with (at_next; refine wpList_next_ranges _ rfl _ rfl 3 keyed3 ptrElem (Value.int .i64) (fun v => v) key_int (fun v _ _ => ⟨v, rfl⟩) pm w1.heap.size qs.length _ _ _ (by go_simp) hrg ?_ ?_)
  ·intro hc0 hl0
   have hmapw : qs'.map Prod.fst = (qs.map Prod.fst).map waitP := by
    apply List.ext_getElem
    ·simp [hql]
    ·intro i h1 h2
     have hi : i < qs.length := by simpa using h2
     have h3 := HQP.out i hi
     rw [hl0, if_neg (by simp)] at h3
     have e1 : qp qs' i = qs'[i].1 := by simp [qp, show i < qs'.length by omega]
     have e2 : qp qs i = qs[i].1 := by simp [qp, hi]
     rw [e1, e2] at h3
     simp only [List.getElem_map]
     exact h3
   have HMW := hid hmapw
   have y2 : wr.cell? ⟨hb, 2, none⟩ = some (.bool full) := HHR.out.box.cell 2
   have HBR := hid (HBT.out.below hBw HPB.out)
   clear hl0 hrg hmapw
   cases full with
   | true =>
    have HP : Hid (TickP B hb pm sb mb vc nm now true wd room (totI (its.take its.length) : Nat) its ts qs pbs w (.returned (.slice none 0 0)) wr) := hid ⟨_, now + 1, qs', [], _, _, rfl, .inr (.inl ⟨hlt, rfl, rfl, HMW.out, rfl⟩), World.ownsRow_nil _ _ _ _, HHR.out.rd, HBR.out⟩
    go_wp2
    go_ret
    exact HP.out
   | false =>
    have hokw : ∀ i, i < qs'.length → PrOk (now + 1) wd (qp qs' i) := fun i hi => by
     have h1 := waitP_ok (HOK.out i (by omega))
     rw [← pat_fst1, HMW.out, pat_map _ i (by simp; omega), pat_fst1]
     exact h1
    have HASK := hid (ask_any B C1 C2 hb pm sb mb vc nm (now + 1) false wd room its ts qs' pbs wr HHR.out hokw (by omega) hw8 HVF.out.name_size (by omega) (sums_asc HVF.out.store.each) (fun i => by
     by_cases hi : i < its.length
     ·have := (HVF.out.store.each i hi).1.2; omega
     ·simp only [itx]; rw [List.getD_eq_getElem?_getD, List.getElem?_eq_none (by omega)]; show (0 : Nat) ≤ _; omega) (HE.out wr HBR.out))
    clear hokw y2
    have y2 : wr.cell? ⟨hb, 2, none⟩ = some (.bool false) := HHR.out.box.cell 2
    go_wp2_with fail
    refine HASK.out.mono ?_
    rintro e w5 ⟨vm, lacks, ord, qs5, vl, rfl, hlu, hT, hq5, hm5, h5, t5⟩
    have HP : Hid (TickP B hb pm sb mb vc nm now false wd room (totI (its.take its.length) : Nat) its ts qs pbs w (.returned vm) w5) := hid ⟨vm, now + 1, qs5, (askN (now + 1) lacks (qs'.map Prod.fst) ord).2, vl, true, rfl, .inr (.inr ⟨hlt, rfl, rfl, lacks, ord, hlu, by rw [← HMW.out]; exact hT, by rw [hq5, HMW.out], by rw [HMW.out]⟩), ownsRow_base hm5 HBT.out.size, h5.rd, HBR.out.trans (t5.below (Nat.le_trans hBw HBR.out.size) (fun b h => HPB.out b (h.imp id (fun ⟨i, hi, e⟩ => ⟨i, by omega, e⟩))))⟩
    obtain ⟨am, cm, hvm⟩ := row_any hm5
    rw [List.length_map] at hvm
    subst hvm
    clear hlu hT hq5 hm5 h5 t5 y2
    go_wp2
    go_ret
    exact HP.out
  ·intro x c kl yd yp w4 cnt1 hkey hlk hv hat hrg1 hlt' hg1 hs1' hen
   obtain ⟨i, hi, hx, rfl, rfl⟩ := entry_peer hkey (HSUB.out _ hlk) hv hat
   have HRG1 := hid hrg1
   have HSUB1 : Hid (∀ k, (left k && !k.sameKey (.int .i64 ((i + 1 : Nat) : Int))) = true → Maps.has (mapP pbs qs.length) k = true) := hid fun k h => HSUB.out k (by rw [Bool.and_eq_true] at h; exact h.1)
   have T4 := But.of_grown (P := fun b => b = w1.heap.size) hg1 rfl
   have H4 := HHR.out.fresh HLS.out T4 (fun b e => by omega)
   have hiq : i < qs'.length := by omega
   have hqi : qp qs' i = qp qs i := by rw [HQP.out i hi, if_pos hlk]
   have hpk := (H4.peers.blk i hiq).2
   have hpw := (HOK.out i hi).wait
   rw [← hqi] at hpw
   have HWL := hid (waitLess_any (pbs.getD i 0) (qp qs' i) (qv qs' i) w4 hpk hpw)
   have HH4 := hid H4
   have HT4 := hid (HBT.out.trans T4 (fun b hb' e => by omega))
   have HQI := hid hqi
   have hpbn := HLS.out.pb i hiq
   have hpbc := (H4.peers.blk i hiq).1
   have hpmc := H4.b4
   clear hkey hlk hv hat hrg1 hg1 hrg H4 T4 hpk hpw hqi hs1' hx
   obtain ⟨pb, hpb⟩ : ∃ b, b = pbs.getD i 0 := ⟨_, rfl⟩
   rw [← hpb] at hen HWL hpbn hpbc ⊢
   have HPBI := hid hpb
   clear hpb
   go_wp2_with fail
   refine HWL.out.mono ?_
   rintro e w5 ⟨rfl, hblk5, hg5⟩
   have T5 := But.of_grown (P := fun b => b = pbs.getD i 0) hg5 HPBI.out
   have HH5 := hid (HH4.out.peer (p' := waitP (qp qs' i)) hiq (waitP_nots _) T5 (by rw [← HPBI.out]; exact hblk5))
   have HRG5 := hid (T5.ranges HRG1.out (by rw [← HPBI.out]; omega) (by rw [← HPBI.out]; omega))
   have HT5 := hid (HT4.out.trans T5 (fun b _ e => .inr ⟨i, hi, e⟩))
   have HQV5 : Hid (∀ j, qv (qs'.set i (waitP (qp qs' i), qv qs' i)) j = qv qs j) := hid fun j => by
    rw [qv_put qs' i j _ hiq]
    split
    ·next e => rw [e]; exact HQV.out i
    ·exact HQV.out j
   have HQP5 : Hid (∀ j, j < qs.length → qp (qs'.set i (waitP (qp qs' i), qv qs' i)) j = if (left (.int .i64 ((j + 1 : Nat) : Int)) && !(Lit.int .i64 ((j + 1 : Nat) : Int)).sameKey (.int .i64 ((i + 1 : Nat) : Int))) = true then qp qs j else waitP (qp qs j)) := hid fun j hj => by
    rw [qp_put qs' i j _ hiq]
    by_cases e : j = i
    ·subst e
     rw [if_pos rfl, HQI.out, if_neg]
     rw [Bool.not_eq_true]
     exact left_int.2 (.inr rfl)
    ·rw [if_neg e, HQP.out j hj, same_int]
     have e2 : decide (((j + 1 : Nat) : Int) = ((i + 1 : Nat) : Int)) = false := by rw [decide_eq_false_iff_not]; omega
     rw [e2]
     simp
   clear hblk5 hg5 T5
   go_wp2
   refine ⟨⟨_, cnt1, _, HRG5.out, HSUB1.out, by rw [List.length_set]; exact hql, HQV5.out, HQP5.out, HH5.out, HT5.out⟩, ?_⟩
   rw [HRG5.out.left_eq, HRG.out.left_eq]
   omega
end Go.Proofs.YtkghbegdjeehaaaGreatDoor
