import Derived.Test.YtkghbegdjeehaaaGreatDoorRingA
import Derived.Test.YtkghbegdjeehaaaGreatDoorShort
import Derived.Test.YtkghbegdjeehaaaGreatDoorPeerRange
/- append of one text onto an empty row without room: into a new block. -/
namespace Go.Proofs.YtkghbegdjeehaaaGreatDoor
open Go.RowKit
theorem wpList_append_empty {ops : Array Oper} {rest : List Oper} {o : Oper} {a : Act} {w : World} {Q : Exit → Act → World → Prop} (hgd : o.guard = none) (s x : Operand)
  (ho : o.op = .call { callee := .builtin .append, args := #[s, x], argTypes := #[23, 23] }) (b : Addr) (hs : a.eval s = .slice (some b) 0 0) (B : Nat) (hB : B ≤ w.heap.size) (t : ByteArray)
  (ad : Addr) (hx : a.eval x = .slice (some ad) 1 1) (hc : ∀ j u, [Value.string t][j]? = some u → w.cell? (ad.add j) = some u)
  (h : ∀ v' w', w'.ownsRow B 9 1 v' 1 [.string t] → w.grownBy w' none → wpList Tryz.prog ops Q rest (a.put o.dst v') w') : wpList Tryz.prog ops Q (o :: rest) a w := by
 obtain ⟨i0, hi, hz0, hz1, hz2⟩ := info_parts Tryz.info9
 have hr := run_append_grow (P := Tryz.prog) w 23 o.type 9 i0 (.string ⟨#[]⟩) Tryz.underlying23 hi hz0 b 0 0 [] (by simp) (fun j v h => by simp at h) ad 1 1 [.string t] (by rw [hz1]; rfl) hc (by omega) (by omega) (growslice_fits (by omega) (by rw [hz2]; omega))
 refine wpList_plain hgd fun _ hK => ?_
 unfold Oper.wp execOp
 simp only [ho, resolve, invoke, builtin, Sem.run_bind, Sem.run_pure, Result.andThen_ok, List.map_toArray, List.map_cons, List.map_nil, hs, hx, hr]
 refine hK _ _ (h _ _ ?_ ?_)
 ·have hge := grownCap_ge w (0 + 1) 0 9
  refine ⟨by simp, .inr ⟨w.heap.size, _, _, rfl, hB, heap_alloc_new w.drew _, hge, grownCap_le_maxLen w (0 + 1) 0 9 (by simp [maxLen]), ?_, ?_⟩⟩
  ·simp only [Array.size_append, List.size_toArray, size_zeroCells, List.length_nil, List.length_cons]
   show 0 + (0 + 1) + (grownCap w (0 + 1) 0 9 - (0 + 1)) * 1 = _
   omega
  ·simp
 ·exact ⟨rfl, rfl, rfl, by simp, fun k hk _ => heap_alloc_old w.drew _ hk⟩
end Go.Proofs.YtkghbegdjeehaaaGreatDoor
/- spec.Lacks: what a thing lacks. -/
namespace Go.Proofs.YtkghbegdjeehaaaGreatDoor
open Go.RowKit
theorem lacks_reads {W : World} {b B : Nat} {v : Value} {l : List ByteArray} (h : (l = [] ∧ v = .slice (some ⟨b, 0, none⟩) 0 0) ∨ W.ownsRow B 9 1 v l.length (l.map Value.string)) : Reads W v l := by
 rcases h with ⟨rfl, rfl⟩ | h
 ·exact .inl ⟨rfl, _, _, rfl⟩
 ·exact Reads.of_row h
/-- A row of texts of its own, or none. -/
def LkRow (W : World) (v : Value) (l : List ByteArray) : Prop := (l = [] ∧ ∃ a c, v = .slice a 0 c) ∨ ∃ B, W.ownsRow B 9 1 v l.length (l.map Value.string)
theorem LkRow.rd {W : World} {v : Value} {l : List ByteArray} (h : LkRow W v l) : Reads W v l := by
 rcases h with ⟨rfl, a, c, rfl⟩ | ⟨B, h⟩
 ·exact .inl ⟨rfl, _, _, rfl⟩
 ·exact Reads.of_row h
theorem lkRow_of {W : World} {b B : Nat} {v : Value} {l : List ByteArray} (h : (l = [] ∧ v = .slice (some ⟨b, 0, none⟩) 0 0) ∨ W.ownsRow B 9 1 v l.length (l.map Value.string)) : LkRow W v l := h.imp (fun ⟨h1, h2⟩ => ⟨h1, _, _, h2⟩) (fun h => ⟨B, h⟩)
set_option maxRecDepth 100000 in
set_option maxHeartbeats 8000000 in
theorem specLacks_row (wd room : Int) (vi vp : Value) (its : Itms) (ts : List ByteArray) (name : ByteArray) (w : World) (hi : RdI w vi its) (hp : Reads w vp ts) (hli : its.length ≤ 1048576) (hlp : ts.length ≤ 1048576) (hsi : ∀ i, (itx its i).size ≤ 1048576) (hsp : ∀ i, (tv ts i).size ≤ 1048576) :
  Calls Tryz.prog 18 #[.agg #[.int .i64 wd, .int .i64 room, vi, vp], .string name] w fun e w' => ∃ v out, e = .returned v ∧ LacksV wd room its ts name out ∧ LkRow w' v out ∧ Below w.heap.size w w' := by
 obtain ⟨ai, ci, rfl, _⟩ := id hi
 obtain ⟨ap, cp, rfl, _⟩ := hp.form
 obtain ⟨i0, hi0, hz0, hz1, hz2⟩ := info_parts Tryz.info9
 have hA0 := (Below.refl w.heap.size w).alloc (Nat.le_refl _) (.cells #[.int .i64 wd, .int .i64 room, .slice ai its.length ci, .slice ap ts.length cp] 32)
 have hA := hA0.alloc hA0.size (.cells #[] 9)
 have HN0 := hid ((Blk.new w 32 #[.int .i64 wd, .int .i64 room, .slice ai its.length ci, .slice ap ts.length cp]).alloc (.cells #[] 9))
 have HV := hid (specValidStore_any wd room (.slice ai its.length ci) (.slice ap ts.length cp) its ts _ (hi.below hA) (hp.below hA) hli hlp hsi hsp)
 have hz : ((w.alloc (.cells #[.int .i64 wd, .int .i64 room, .slice ai its.length ci, .slice ap ts.length cp] 32)).alloc (.cells #[] 9)).heap.size = w.heap.size + 2 := by rw [World.size_alloc, World.size_alloc]
 have HI := hid hi
 have HP := hid hp
 have HA := hid hA
 have HLL := hid fun (W : World) h k => l4List_any wd room (.slice ai its.length ci) (.slice ap ts.length cp) its ts name W h k hli hsi
 have HAT := hid fun (a : Option Addr) (W : World) (h1 : RdI W (.slice a its.length ci) its) (p : ByteArray) => l4At_any wd room (.slice a its.length ci) (.slice ap ts.length cp) its p W h1 ⟨_, _, _, rfl⟩ hli hsi
 clear hi hp hA0 hA hsi hsp
 have y0 : ((w.alloc (.cells #[.int .i64 wd, .int .i64 room, .slice ai its.length ci, .slice ap ts.length cp] 32)).alloc (.cells #[] 9)).cell? ⟨w.heap.size, 0, none⟩ = some (.int .i64 wd) := HN0.out.cell 0
 have y1 : ((w.alloc (.cells #[.int .i64 wd, .int .i64 room, .slice ai its.length ci, .slice ap ts.length cp] 32)).alloc (.cells #[] 9)).cell? ⟨w.heap.size, 1, none⟩ = some (.int .i64 room) := HN0.out.cell 1
 have y2 : ((w.alloc (.cells #[.int .i64 wd, .int .i64 room, .slice ai its.length ci, .slice ap ts.length cp] 32)).alloc (.cells #[] 9)).cell? ⟨w.heap.size, 2, none⟩ = some (.slice ai its.length ci) := HN0.out.cell 2
 have y3 : ((w.alloc (.cells #[.int .i64 wd, .int .i64 room, .slice ai its.length ci, .slice ap ts.length cp] 32)).alloc (.cells #[] 9)).cell? ⟨w.heap.size, 3, none⟩ = some (.slice ap ts.length cp) := HN0.out.cell 3
 go_enter Tryz.func18, Tryz.ntmps18
 go_wp2_with fail
 refine HV.out.mono ?_
 rintro e w1 ⟨b, rfl, hb, hb1⟩
 have N1 := HN0.out.below hb1
 have B1 := HA.out.trans (hb1.mono HA.out.size)
 have hs1 := hb1.size
 rw [hz] at hs1
 clear y0 y1 y2 y3 hz
 cases b with
 | false =>
  have HNO : Hid (¬ (ValidSt wd room its ts ∧ (name.size : Int) = wd)) := fun h => by have := hb.2 h.1; cases this
  have HB := hid B1
  clear hb hb1 N1 B1
  go_wp2
  go_ret
  exact ⟨_, [], rfl, .inl ⟨HNO.out, rfl⟩, .inl ⟨rfl, _, _, rfl⟩, HB.out⟩
 | true =>
 have c0 : w1.cell? ⟨w.heap.size, 0, none⟩ = some (.int .i64 wd) := N1.cell 0
 by_cases hsz : (name.size : Int) = wd
 case neg =>
  have HNO : Hid (¬ (ValidSt wd room its ts ∧ (name.size : Int) = wd)) := fun h => hsz h.2
  have HB := hid B1
  clear hb hb1 N1 B1
  go_wp2
  go_ret
  exact ⟨_, [], rfl, .inl ⟨HNO.out, rfl⟩, .inl ⟨rfl, _, _, rfl⟩, HB.out⟩
 have HVAL : Hid (ValidSt wd room its ts ∧ (name.size : Int) = wd) := ⟨hb.1 rfl, hsz⟩
 have HL1 := hid (HLL.out w1 (HI.out.below B1) (HP.out.below B1))
 have c1' : w1.cell? ⟨w.heap.size, 1, none⟩ = some (.int .i64 room) := N1.cell 1
 have c2' : w1.cell? ⟨w.heap.size, 2, none⟩ = some (.slice ai its.length ci) := N1.cell 2
 have c3' : w1.cell? ⟨w.heap.size, 3, none⟩ = some (.slice ap ts.length cp) := N1.cell 3
 have HB1 := hid B1
 have HN1 := hid N1
 clear hb hb1 N1 B1
 go_wp2_with fail
 refine HL1.out.mono ?_
 rintro e w2 ⟨v1, n, ss, ok, rfl, hul, ho2, hb2⟩
 obtain ⟨a1, c1, rfl, _⟩ := row_form ho2
 have B2 := HB1.out.trans (hb2.mono HB1.out.size)
 have N2 := HN1.out.below hb2
 have hs2 := hb2.size
 have HUL := hid hul
 clear c0 c1' c2' c3' hsz
 cases ok with
 | false =>
  have HB2 := hid (B2.alloc B2.size (.cells #[.int .i64 n, .slice a1 ss.length c1] 79))
  have HR : Hid (LacksV wd room its ts name [name]) := .inr ⟨HVAL.out, .inl ⟨n, ss, HUL.out, rfl⟩⟩
  have hz2 : (w2.alloc (.cells #[.int .i64 n, .slice a1 ss.length c1] 79)).heap.size = w2.heap.size + 1 := World.size_alloc _ _
  clear hul ho2 hb2 B2 N2
  go_wp2_with (at_builtin; refine wpList_append_empty rfl _ _ rfl ⟨w.heap.size + 1, 0, none⟩ (by go_simp) w2.heap.size (by simp; omega) name ⟨w2.heap.size + 1, 0, none⟩ (by go_simp) (fun j u h => by have h2 := cell_one_new (w2.alloc (.cells #[.int .i64 n, .slice a1 ss.length c1] 79)) (.string name) 9 j u h; rw [hz2] at h2; exact h2) ?_; intro v' w6 hown' hgrow; obtain ⟨a6, c6, rfl, _⟩ := row_form hown')
  have HB6 := hid ((HB2.out.alloc HB2.out.size (.cells #[.string name] 9)).grown hgrow (by simp; omega) (fun g e => by cases e))
  have HO6 : Hid (LkRow w6 _ [name]) := hid (.inr ⟨_, hown'⟩)
  clear hown' hgrow
  go_wp2
  go_ret
  exact ⟨_, [name], rfl, HR.out, HO6.out, HB6.out⟩
 | true =>
 obtain ⟨hfew, _, _⟩ := hul.few
 have HR : Hid (LacksV wd room its ts name (lackN wd its ss ss.length)) := .inr ⟨HVAL.out, .inr ⟨n, ss, HUL.out, rfl⟩⟩
 have hA2 := (Below.refl w2.heap.size w2).alloc (Nat.le_refl _) (.cells #[.int .i64 n, .slice a1 ss.length c1] 79)
 have HN2 := hid (N2.alloc (.cells #[.int .i64 n, .slice a1 ss.length c1] 79))
 have L2 : LBox (w2.alloc (.cells #[.int .i64 n, .slice a1 ss.length c1] 79)) w2.heap.size n (.slice a1 ss.length c1) := World.alloc_heap_new w2 _
 have HL2 := hid L2
 have HI2 := hid ((HI.out.below B2).below hA2)
 have HS2 := hid (Reads.of_row (ho2.alloc (.cells #[.int .i64 n, .slice a1 ss.length c1] 79)))
 have HB2 := hid (B2.trans (hA2.mono B2.size))
 have hzz : (w2.alloc (.cells #[.int .i64 n, .slice a1 ss.length c1] 79)).heap.size = w2.heap.size + 1 := World.size_alloc _ _
 clear hul ho2 hb2 B2 N2 hA2 L2
 go_wp2_with fail
 go_loopw [5, 8] (fun v i' wr => ∃ (k : Nat), k ≤ ss.length ∧ i' = .int .i64 k ∧ ((lackN wd its ss k = [] ∧ v = .slice (some ⟨w.heap.size + 1, 0, none⟩) 0 0) ∨ wr.ownsRow (w2.heap.size + 1) 9 1 v (lackN wd its ss k).length ((lackN wd its ss k).map Value.string)) ∧ Below (w2.heap.size + 1) (w2.alloc (.cells #[.int .i64 n, .slice a1 ss.length c1] 79)) wr) (fun _ i' _ => ss.length - (intOf i').toNat)
 case atStart => exact ⟨0, Nat.zero_le _, rfl, .inl ⟨rfl, rfl⟩, Below.refl _ _⟩
 case round =>
  obtain ⟨k, hk, rfl, hrow, hbl0⟩ := hrel
  have hbl : Below (w2.alloc (.cells #[.int .i64 n, .slice a1 ss.length c1] 79)).heap.size (w2.alloc (.cells #[.int .i64 n, .slice a1 ss.length c1] 79)) wr := by rw [hzz]; exact hbl0
  have hsr := hbl.size
  rw [hzz] at hsr
  have N3 := HN2.out.below hbl
  have L3 := HL2.out.below hbl
  have hrd := lacks_reads hrow
  have hlen := lackN_len wd its ss k
  have HRD := hid hrd
  have HLK := hid (lkRow_of hrow)
  have HRW := hid hrow
  have HBL0 := hid hbl0
  have HBR := hid (HB2.out.trans (hbl.mono HB2.out.size))
  obtain ⟨av, cv, rfl, _⟩ := hrd.form
  have x1 : wr.cell? ⟨w2.heap.size, 1, none⟩ = some (.slice a1 ss.length c1) := L3.c1
  by_cases hlt : k < ss.length
  case neg =>
   obtain rfl : k = ss.length := by omega
   clear hrow hbl hbl0 N3 L3 hrd
   go_wp2
   go_ret
   exact ⟨_, _, rfl, HR.out, HLK.out, HBR.out⟩
  obtain ⟨a1', c1', e', hcs⟩ := (HS2.out.below hbl).form
  cases e'
  obtain ⟨b0, o0, rfl, hpb, hpc⟩ := hcs k hlt
  have hpt : wr.cell? ⟨b0, o0 + k, none⟩ = some (.string (tv ss k)) := hpc
  have HSUC := hid (lackN_succ (wd := wd) (its := its) hlt)
  generalize tv ss k = p at hpt HSUC
  have hbd : Below wr.heap.size wr wr.drew := below_drewN (Below.refl _ _) 1
  have HAT1 := hid (HAT.out _ wr.drew ((HI2.out.below hbl).below hbd) p)
  have hS0 : wr.drew.cell? ⟨w.heap.size, 0, none⟩ = some (.int .i64 wd) ∧ wr.drew.cell? ⟨w.heap.size, 1, none⟩ = some (.int .i64 room) ∧ wr.drew.cell? ⟨w.heap.size, 2, none⟩ = some (.slice ai its.length ci) ∧ wr.drew.cell? ⟨w.heap.size, 3, none⟩ = some (.slice ap ts.length cp) ∧ wr.drew.cell? ⟨w2.heap.size, 1, none⟩ = some (.slice (some ⟨b0, o0, none⟩) ss.length c1) ∧ wr.drew.cell? ⟨b0, o0 + k, none⟩ = some (.string p) := ⟨N3.cell 0, N3.cell 1, N3.cell 2, N3.cell 3, L3.c1, hpt⟩
  have HPB := hid hpb
  have HPT := hid hpt
  have HN3 := hid N3
  have HL3 := hid L3
  have hec := enters_of Tryz.func42 (by kernel_rfl) rfl
  have hec2 := enters_of Tryz.func38 (by kernel_rfl) rfl
  clear hcs hpc hpb hpt hrow hbl hbl0 N3 L3 hbd hrd
  go_upto_region 10 with (fail)
  go_cut [57] from 33 to 65 (fun s57 wx => ∃ c, s57 = .bool c ∧ (c = true → lackN wd its ss (k + 1) = lackN wd its ss k ++ [p]) ∧ (c = false → lackN wd its ss (k + 1) = lackN wd its ss k) ∧ Below wr.heap.size wr wx)
  case first =>
   refine wp_region_held (S := fun w' => w'.cell? ⟨w.heap.size, 0, none⟩ = some (.int .i64 wd) ∧ w'.cell? ⟨w.heap.size, 1, none⟩ = some (.int .i64 room) ∧ w'.cell? ⟨w.heap.size, 2, none⟩ = some (.slice ai its.length ci) ∧ w'.cell? ⟨w.heap.size, 3, none⟩ = some (.slice ap ts.length cp) ∧ w'.cell? ⟨w2.heap.size, 1, none⟩ = some (.slice (some ⟨b0, o0, none⟩) ss.length c1) ∧ w'.cell? ⟨b0, o0 + k, none⟩ = some (.string p)) (by kernel_rfl) ?_
   change wpAnyH _ _ _ _ _ _ _ _ (World.drew _)
   refine tkA 0 (.agg #[.int .i64 wd, .int .i64 room, .slice ai its.length ci, .slice ap ts.length cp]) rfl hS0 ?_
   refine tkA 1 (.pointer (some ⟨w2.heap.size, 1, none⟩)) rfl hS0 ?_
   refine tkA 2 (.slice (some ⟨b0, o0, none⟩) ss.length c1) rfl hS0 ?_
   refine tkA 3 (.int .i64 (k : Nat)) rfl hS0 ?_
   refine tkA 4 (.pointer (some ⟨b0, o0 + k, none⟩)) rfl hS0 ?_
   refine tkA 5 (.string p) rfl hS0 ?_
   refine held_one 6 (by kernel_rfl) (op_calls (f := 42) (args := #[.agg #[.int .i64 wd, .int .i64 room, .slice ai its.length ci, .slice ap ts.length cp], .string p]) rfl rfl (by go_simp) HAT1.out ?_)
   rintro e w3 ⟨r, rfl, hr, hb3⟩
   have hb3' : Below wr.heap.size wr w3 := ⟨hb3.os, hb3.tape, hb3.output, hb3.size, hb3.block⟩
   have N4 := HN3.out.below hb3'
   have L4 := HL3.out.below hb3'
   have hS1 : w3.cell? ⟨w.heap.size, 0, none⟩ = some (.int .i64 wd) ∧ w3.cell? ⟨w.heap.size, 1, none⟩ = some (.int .i64 room) ∧ w3.cell? ⟨w.heap.size, 2, none⟩ = some (.slice ai its.length ci) ∧ w3.cell? ⟨w.heap.size, 3, none⟩ = some (.slice ap ts.length cp) ∧ w3.cell? ⟨w2.heap.size, 1, none⟩ = some (.slice (some ⟨b0, o0, none⟩) ss.length c1) ∧ w3.cell? ⟨b0, o0 + k, none⟩ = some (.string p) := ⟨N4.cell 0, N4.cell 1, N4.cell 2, N4.cell 3, L4.c1, (hb3'.cell (p := ⟨b0, o0 + k, none⟩) HPB.out).trans HPT.out⟩
   have HB3 := hid hb3'
   refine ⟨_, rfl, hS1, ?_⟩
   rcases hr with ⟨rfl, hno⟩ | ⟨i, hlti, rfl, hsum⟩
   ·have HAB := hid hno
    have HLI := hid (l2In_in (.slice av (lackN wd its ss k).length cv) (lackN wd its ss k) p w3 (HRD.out.below hb3') (by unfold maxLen; omega))
    clear hb3 hb3' N4 L4 hno hS0
    refine tkA 7 (.bool true) rfl hS1 ?_
    refine tkA 8 (.bool true) rfl hS1 ?_
    refine tkG 9 (.slice av (lackN wd its ss k).length cv) rfl hS1 ?_
    refine tkG 10 (.pointer (some ⟨w2.heap.size, 1, none⟩)) rfl hS1 ?_
    refine tkG 11 (.slice (some ⟨b0, o0, none⟩) ss.length c1) rfl hS1 ?_
    refine tkG 12 (.int .i64 (k : Nat)) rfl hS1 ?_
    refine tkG 13 (.pointer (some ⟨b0, o0 + k, none⟩)) rfl hS1 ?_
    refine tkG 14 (.string p) rfl hS1 ?_
    refine held_one 15 (by kernel_rfl) ?_
    refine @op_wpW _ _ _ _ _ _ 15 ?oa ?hoa ?hwa ?hha
    case hoa => rfl
    case hwa => go_simp
    unfold Oper.wp
    go_simp
    refine HLI.out.mono ?_
    rintro e w4 ⟨rfl, rfl⟩
    have hS2 := hS1
    have HB4 := hid HB3.out
    clear hS1
    refine ⟨hS2, ?_⟩
    cases hin : inB (lackN wd its ss k) p with
    | true =>
     have HE : Hid (lackN wd its ss (k + 1) = lackN wd its ss k) := HSUC.out.trans (addL_told hin)
     refine tkG 16 (.bool false) rfl hS2 ?_
     refine tkA 17 (.bool false) rfl hS2 ?_
     refine wpAnyH_done (by kernel_rfl) ?_ _
     clear hS2 hin
     go_simp
     go_wp2_with fail
     go_meet
     exact ⟨false, rfl, fun h => (by cases h), fun _ => HE.out, HB4.out⟩
    | false =>
     have HE : Hid (lackN wd its ss (k + 1) = lackN wd its ss k ++ [p]) := HSUC.out.trans (addL_new HAB.out hin)
     refine tkG 16 (.bool true) rfl hS2 ?_
     refine tkA 17 (.bool true) rfl hS2 ?_
     refine wpAnyH_done (by kernel_rfl) ?_ _
     clear hS2 hin
     go_simp
     go_wp2_with fail
     go_meet
     exact ⟨true, rfl, fun _ => HE.out, fun h => (by cases h), HB4.out⟩
   ·have HE : Hid (lackN wd its ss (k + 1) = lackN wd its ss k) := HSUC.out.trans (addL_have (t := itx its i) ⟨i, hlti, hsum, rfl⟩)
    have hni : decide ((i : Int) < 0) = false := by simp
    clear hb3 hb3' N4 L4 hS0 hsum
    refine tkA 7 (.bool false) rfl hS1 ?_
    refine tkA 8 (.bool false) rfl hS1 ?_
    refine tkO 9 rfl hS1 ?_
    refine tkO 10 rfl hS1 ?_
    refine tkO 11 rfl hS1 ?_
    refine tkO 12 rfl hS1 ?_
    refine tkO 13 rfl hS1 ?_
    refine tkO 14 rfl hS1 ?_
    refine tkO 15 rfl hS1 ?_
    refine tkO 16 rfl hS1 ?_
    refine tkA 17 (.bool false) rfl hS1 ?_
    refine wpAnyH_done (by kernel_rfl) ?_ _
    clear hS1 hni
    go_simp
    go_wp2_with fail
    go_meet
    exact ⟨false, rfl, fun h => (by cases h), fun _ => HE.out, HB3.out⟩
  case rest =>
   obtain ⟨c, rfl, hct, hcf, hbx⟩ := hcut
   have L6 := HL3.out.below hbx
   have D6 := HBL0.out.trans (hbx.mono hsr)
   have q1 : wc.cell? ⟨w2.heap.size, 1, none⟩ = some (.slice (some ⟨b0, o0, none⟩) ss.length c1) := L6.c1
   have q2 : wc.cell? ⟨b0, o0 + k, none⟩ = some (.string p) := (hbx.cell (p := ⟨b0, o0 + k, none⟩) HPB.out).trans HPT.out
   have hsc := hbx.size
   have HD6 := hid D6
   cases c with
   | false =>
    have HE : Hid (lackN wd its ss (k + 1) = lackN wd its ss k) := hcf rfl
    have HW : Hid ((lackN wd its ss k = [] ∧ Value.slice av (lackN wd its ss k).length cv = .slice (some ⟨w.heap.size + 1, 0, none⟩) 0 0) ∨ wc.ownsRow (w2.heap.size + 1) 9 1 (.slice av (lackN wd its ss k).length cv) (lackN wd its ss k).length ((lackN wd its ss k).map Value.string)) := HRW.out.imp id (fun h => Below.row hbx h)
    clear hct hcf hbx L6 D6 q1 q2
    go_wp2
    exact ⟨⟨k + 1, by omega, by go_num, by rw [HE.out]; exact HW.out, HD6.out⟩, by simp [intOf]; omega⟩
   | true =>
    have HE : Hid (lackN wd its ss (k + 1) = lackN wd its ss k ++ [p]) := hct rfl
    rcases HRW.out with ⟨h0, hv0⟩ | hrow
    ·rw [hv0]
     have HE1 : Hid (lackN wd its ss (k + 1) = [p]) := by
      show lackN wd its ss (k + 1) = [p]
      rw [HE.out, h0]
      rfl
     clear hct hcf hbx L6 D6 hv0
     go_wp2_with (at_builtin; refine wpList_append_empty rfl _ _ rfl ⟨w.heap.size + 1, 0, none⟩ (by go_simp) (w2.heap.size + 1) (by simp; omega) p ⟨wc.heap.size, 0, none⟩ (by go_simp) (cell_one_new wc (.string p) 9) ?_; intro v' w6 hown' hgrow; obtain ⟨a6, c6, rfl, _⟩ := row_form hown')
     have hD6 := (HD6.out.alloc (by omega) (.cells #[.string p] 9)).grown hgrow (by simp; omega) (fun g e => by cases e)
     exact ⟨⟨k + 1, by omega, by go_num, .inr (by rw [HE1.out]; exact hown'), hD6⟩, by simp [intOf]; omega⟩
    ·have R6 := Below.row hbx hrow
     clear hct hcf hbx L6 D6 hrow
     go_wp2_with (at_builtin; refine wpList_append_own _ rfl _ _ 23 rfl (w2.heap.size + 1) 9 i0 (.string ⟨#[]⟩) 1 16 Tryz.underlying23 hi0 hz0 hz1 hz2 rfl (by decide) _ _ _ rfl (R6.alloc _) ⟨_, 0, none⟩ 1 1 [.string p] rfl rfl (cell_one_new _ _ _) (by simp [Value.oneCell']) (by unfold maxLen; omega) (by omega) (by simp; omega) ?_; intro v' w6 hown' hgrow _; obtain ⟨a6, c6, rfl, _⟩ := row_form hown')
     have hD6 := (HD6.out.alloc (by omega) (.cells #[.string p] 9)).grown hgrow (by simp; omega) (fun g e => (R6.lt g e).1)
     exact ⟨⟨k + 1, by omega, by go_num, .inr (by rw [HE.out]; simpa using hown'), hD6⟩, by simp [intOf]; omega⟩
end Go.Proofs.YtkghbegdjeehaaaGreatDoor
