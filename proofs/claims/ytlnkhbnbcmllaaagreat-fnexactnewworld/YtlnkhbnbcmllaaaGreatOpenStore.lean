/- impl.openStore opens a store, if it is valid. -/
import Derived.Test.YtlnkhbnbcmllaaaGreatAreSums
import Derived.Test.YtlnkhbnbcmllaaaGreatShort
import Derived.Deep.CutRange
import Derived.Deep.DeepCutAuto
namespace Go.Proofs.YtlnkhbnbcmllaaaGreat
open Go.RowKit
/-- A shelf that holds the first k items. -/
structure ShelfAt (w' : World) (B sb mb : Nat) (vc : Value) (wd room : Int) (its : Itms) (ts : List ByteArray) (k : Nat) : Prop where
  box : Blk w' sb 109 #[.int .i64 wd, .int .i64 room, .int .i64 (totI (its.take k) : Nat), .map (some mb), vc]
  map : w'.ownsMap Tryz.prog 9 itemElem mb k (mapI wd its k)
  row : w'.ownsRow B 9 1 vc ts.length (ts.map Value.string)
  hs : B ≤ sb
  hm : B ≤ mb
  ne : sb ≠ mb
  ns : vc.ownBlock ≠ some sb
  nm : vc.ownBlock ≠ some mb
def ORes (wd room : Int) (its : Itms) (ts : List ByteArray) (w : World) (e : Ending) (w' : World) : Prop :=
  (¬ ValidSt wd room its ts ∧ e = .returned (.tuple #[.pointer none, .bool false]) ∧ Below w.heap.size w w') ∨
  (ValidSt wd room its ts ∧ ∃ sb mb vc, e = .returned (.tuple #[.pointer (some ⟨sb, 0, none⟩), .bool true]) ∧ ShelfAt w' w.heap.size sb mb vc wd room its ts its.length ∧ Below w.heap.size w w')
theorem ORes.no {wd room : Int} {its : Itms} {ts : List ByteArray} {w w' : World} (h : ¬ ValidSt wd room its ts) (hb : Below w.heap.size w w') : ORes wd room its ts w (.returned (.tuple #[.pointer none, .bool false])) w' := .inl ⟨h, rfl, hb⟩
def lastK (n : Int) (its : Itms) (k : Nat) : ByteArray := if k = 0 then ⟨#[]⟩ else sumX n (itx its (k - 1))
theorem sumX_len {n : Int} (h1 : 1 ≤ n) (h2 : n ≤ 8) (p : ByteArray) : (sumX n p).data.toList ≠ [] := by
  have hw : isW n = true := by simp [isW]; omega
  have e : (sumX n p).data.toList = lowB (fnvList p.data.toList) n.toNat := by simp [sumX, sumOf, hw]
  rw [e]
  intro h
  have := congrArg List.length h
  rw [lowB_length] at this
  simp at this
  omega
theorem tlt_empty {x : ByteArray} (h : x.data.toList ≠ []) : tlt ⟨#[]⟩ x = true := by
  unfold tlt
  rw [ByteArray.toList_eq, ByteArray.toList_eq]
  cases e : x.data.toList with
  | nil => exact absurd e h
  | cons a l => rfl
theorem itemOk_iff {n : Int} {its : Itms} {k : Nat} (h1 : 1 ≤ n) (h2 : n ≤ 8) : itemOk n its k ↔ (1 ≤ (itx its k).size ∧ (itx its k).size ≤ 7000) ∧ (0 ≤ itu its k ∧ itu its k ≤ 1000000) ∧ tlt (lastK n its k) (sumX n (itx its k)) = true := by
  unfold itemOk lastK
  cases k with
  | zero =>
    rw [if_pos rfl]
    exact ⟨fun h => ⟨h.1, h.2.1, tlt_empty (sumX_len h1 h2 _)⟩, fun h => ⟨h.1, h.2.1, fun h0 => absurd h0 (by omega)⟩⟩
  | succ k => simp
theorem ShelfAt.below {w w' : World} {B sb mb : Nat} {vc : Value} {wd room : Int} {its : Itms} {ts : List ByteArray} {k : Nat} (h : ShelfAt w B sb mb vc wd room its ts k) (hb : Below w.heap.size w w') : ShelfAt w' B sb mb vc wd room its ts k :=
  ⟨h.box.below hb, h.map.kept (grown_of_below hb) (by simp), Below.row hb h.row, h.hs, h.hm, h.ne, h.ns, h.nm⟩
theorem ShelfAt.put {w w6 : World} {B sb mb : Nat} {vc : Value} {wd room : Int} {its : Itms} {ts : List ByteArray} {k n' : Nat} (h : ShelfAt w B sb mb vc wd room its ts k) (hm : w6.ownsMap Tryz.prog 9 itemElem mb (k + 1) (mapI wd its (k + 1))) (hg : w.grownBy w6 (some mb)) (ht : totI (its.take (k + 1)) = n') :
    ShelfAt (w6.setCell ⟨sb, 2, none⟩ (.int .i64 ((n' : Nat) : Int))) B sb mb vc wd room its ts (k + 1) := by
  have g2 := grownBy_setCellAt w6 sb 2 (.int .i64 ((n' : Nat) : Int))
  refine ⟨?_, hm.kept g2 (fun e => h.ne (by cases e; rfl)), (h.row.kept hg (.inr h.nm)).kept g2 (.inr h.ns), h.hs, h.hm, h.ne, h.ns, h.nm⟩
  rw [ht]
  exact (h.box.kept hg (fun e => h.ne (by cases e; rfl))).set 2 _
set_option maxRecDepth 100000 in
set_option maxHeartbeats 4000000 in
theorem openStore_any (wd room : Int) (vi vp : Value) (its : Itms) (ts : List ByteArray) (w : World) (hi : RdI w vi its) (hp : Reads w vp ts) (hli : its.length ≤ 1048576) (hlp : ts.length ≤ 1048576) (hsi : ∀ i, (itx its i).size ≤ 1048576) (hsp : ∀ i, (tv ts i).size ≤ 1048576) :
    Calls Tryz.prog 56 #[.agg #[.int .i64 wd, .int .i64 room, vi, vp]] w fun e w' => ORes wd room its ts w e w' := by
  obtain ⟨ai, ci, rfl, hci⟩ := hi
  obtain ⟨ap, cp, rfl, hcp⟩ := hp.form
  have hA := (Below.refl w.heap.size w).alloc (Nat.le_refl _) (.cells #[.int .i64 wd, .int .i64 room, .slice ai its.length ci, .slice ap ts.length cp] 34)
  have HA := hid hA
  cases hw : isW wd with
  | false =>
    have HF : Hid (¬ ValidSt wd room its ts) := fun h => by have := h.width; rw [hw] at this; cases this
    clear hci hcp hp hA hsi hsp
    go_enter Tryz.func56, Tryz.ntmps56
    go_wp2_with (go_at_call 79; refine (isWidth_any _ _).mono ?_; rintro e w1 ⟨rfl, rfl⟩)
    go_ret2
    exact ORes.no HF.out HA.out
  | true =>
  have h12 : 1 ≤ wd ∧ wd ≤ 8 := by simpa [isW] using hw
  by_cases r0 : room < 0
  case pos =>
    have HF : Hid (¬ ValidSt wd room its ts) := fun h => by have := h.room0; omega
    clear hci hcp hp hA hsi hsp
    go_enter Tryz.func56, Tryz.ntmps56
    go_wp2_with (go_at_call 79; refine (isWidth_any _ _).mono ?_; rintro e w1 ⟨rfl, rfl⟩)
    go_ret2
    exact ORes.no HF.out HA.out
  by_cases r1 : 60000 < room
  case pos =>
    have HF : Hid (¬ ValidSt wd room its ts) := fun h => by have := h.room1; omega
    clear hci hcp hp hA hsi hsp
    go_enter Tryz.func56, Tryz.ntmps56
    go_wp2_with (go_at_call 79; refine (isWidth_any _ _).mono ?_; rintro e w1 ⟨rfl, rfl⟩)
    go_ret2
    exact ORes.no HF.out HA.out
  by_cases h1 : 1000 < its.length
  case pos =>
    have HF : Hid (¬ ValidSt wd room its ts) := fun h => by have := h.items; omega
    clear hci hcp hp hA hsi hsp
    go_enter Tryz.func56, Tryz.ntmps56
    go_wp2_with (go_at_call 79; refine (isWidth_any _ _).mono ?_; rintro e w1 ⟨rfl, rfl⟩)
    go_ret2
    exact ORes.no HF.out HA.out
  by_cases h2 : 10 < ts.length
  case pos =>
    have HF : Hid (¬ ValidSt wd room its ts) := fun h => by have := h.pins; omega
    clear hci hcp hp hA hsi hsp
    go_enter Tryz.func56, Tryz.ntmps56
    go_wp2_with (go_at_call 79; refine (isWidth_any _ _).mono ?_; rintro e w1 ⟨rfl, rfl⟩)
    go_ret2
    exact ORes.no HF.out HA.out
  have HAS0 := areSums_any (.slice ap ts.length cp) ts wd _ (hp.below hA) (by unfold maxLen; omega) (fun i => Nat.le_trans (hsp i) (by unfold maxLen; omega)) h12.1
  by_cases hok : okSums wd ts
  case neg =>
    have HAS : Hid (Calls Tryz.prog 80 #[.slice ap ts.length cp, .int .i64 wd] (w.alloc (.cells #[.int .i64 wd, .int .i64 room, .slice ai its.length ci, .slice ap ts.length cp] 34)) fun e w' => e = .returned (.bool false) ∧ w' = (w.alloc (.cells #[.int .i64 wd, .int .i64 room, .slice ai its.length ci, .slice ap ts.length cp] 34))) := HAS0.mono fun e w' ⟨b, he, hb, hw⟩ => ⟨by cases b; exact he; exact absurd (hb.1 rfl) hok, hw⟩
    clear HAS0
    have HF : Hid (¬ ValidSt wd room its ts) := fun h => hok h.sums
    clear hci hcp hp hA hsi hsp
    go_enter Tryz.func56, Tryz.ntmps56
    go_wp2_with (first | (go_at_call 79; refine (isWidth_any _ _).mono ?_; rintro e w1 ⟨rfl, rfl⟩) | (go_at_call 80; refine HAS.out.mono ?_; rintro e w1 ⟨rfl, rfl⟩))
    go_ret2
    exact ORes.no HF.out HA.out
  have HAS : Hid (Calls Tryz.prog 80 #[.slice ap ts.length cp, .int .i64 wd] (w.alloc (.cells #[.int .i64 wd, .int .i64 room, .slice ai its.length ci, .slice ap ts.length cp] 34)) fun e w' => e = .returned (.bool true) ∧ w' = (w.alloc (.cells #[.int .i64 wd, .int .i64 room, .slice ai its.length ci, .slice ap ts.length cp] 34))) := HAS0.mono fun e w' ⟨b, he, hb, hw⟩ => ⟨by rw [← hb.2 hok]; exact he, hw⟩
  have HV : Hid ((∀ i, i < its.length → itemOk wd its i) → (totI its : Int) ≤ room → ValidSt wd room its ts) := fun a c => ⟨hw, by omega, by omega, by omega, by omega, a, hok, c⟩
  have HRI : Hid (RdI (w.alloc (.cells #[.int .i64 wd, .int .i64 room, .slice ai its.length ci, .slice ap ts.length cp] 34)) (.slice ai its.length ci) its) := RdI.below ⟨ai, ci, rfl, hci⟩ hA
  have HN := hid (Blk.new w 34 #[.int .i64 wd, .int .i64 room, .slice ai its.length ci, .slice ap ts.length cp])
  have HSI := hid hsi
  have HRP := hid hp
  have HCL := hid fun W h => cloneRow_any (.slice ap ts.length cp) ts W h hlp
  clear HAS0 hci hcp hp hA hsi hsp
  go_enter Tryz.func56, Tryz.ntmps56
  go_upto_region 5 with (first | (go_at_call 79; refine (isWidth_any _ _).mono ?_; rintro e w1 ⟨rfl, rfl⟩) | (go_at_call 80; refine HAS.out.mono ?_; rintro e w1 ⟨rfl, rfl⟩))
  go_cut [4] from 41 to 53 (fun s4 wx => ∃ sb mb vc, s4 = .pointer (some ⟨sb, 0, none⟩) ∧ ShelfAt wx (w.heap.size + 1) sb mb vc wd room its ts 0 ∧ Below (w.heap.size + 1) (w.alloc (.cells #[.int .i64 wd, .int .i64 room, .slice ai its.length ci, .slice ap ts.length cp] 34)) wx)
  case first =>
    refine wp_region_held (S := fun w' => w'.cell? ⟨w.heap.size, 0, none⟩ = some (.int .i64 wd) ∧ w'.cell? ⟨w.heap.size, 1, none⟩ = some (.int .i64 room) ∧ w'.cell? ⟨w.heap.size, 2, none⟩ = some (.slice ai its.length ci) ∧ w'.cell? ⟨w.heap.size, 3, none⟩ = some (.slice ap ts.length cp)) (by kernel_rfl) ?_
    change wpAnyH _ _ _ _ _ _ _ _ (World.drew _)
    have hS0 : (w.alloc (.cells #[.int .i64 wd, .int .i64 room, .slice ai its.length ci, .slice ap ts.length cp] 34)).drew.cell? ⟨w.heap.size, 0, none⟩ = some (.int .i64 wd) ∧ (w.alloc (.cells #[.int .i64 wd, .int .i64 room, .slice ai its.length ci, .slice ap ts.length cp] 34)).drew.cell? ⟨w.heap.size, 1, none⟩ = some (.int .i64 room) ∧ (w.alloc (.cells #[.int .i64 wd, .int .i64 room, .slice ai its.length ci, .slice ap ts.length cp] 34)).drew.cell? ⟨w.heap.size, 2, none⟩ = some (.slice ai its.length ci) ∧ (w.alloc (.cells #[.int .i64 wd, .int .i64 room, .slice ai its.length ci, .slice ap ts.length cp] 34)).drew.cell? ⟨w.heap.size, 3, none⟩ = some (.slice ap ts.length cp) := ⟨HN.out.cell 0, HN.out.cell 1, HN.out.cell 2, HN.out.cell 3⟩
    refine wpAnyH_take (i := 0) (v := .pointer (some ⟨w.heap.size, 0, none⟩)) rfl (by kernel_rfl) (by kernel_rfl) (by kernel_rfl) (fun _ _ _ h => h) (.inl ⟨rfl, fun w' hS => by obtain ⟨s1, s2, s3, s4⟩ := hS; go_simp⟩) hS0 ?_
    refine wpAnyH_take (i := 1) (v := .int .i64 wd) rfl (by kernel_rfl) (by kernel_rfl) (by kernel_rfl) (fun _ _ _ h => h) (.inl ⟨rfl, fun w' hS => by obtain ⟨s1, s2, s3, s4⟩ := hS; go_simp⟩) hS0 ?_
    refine wpAnyH_take (i := 2) (v := .pointer (some ⟨w.heap.size, 1, none⟩)) rfl (by kernel_rfl) (by kernel_rfl) (by kernel_rfl) (fun _ _ _ h => h) (.inl ⟨rfl, fun w' hS => by obtain ⟨s1, s2, s3, s4⟩ := hS; go_simp⟩) hS0 ?_
    refine wpAnyH_take (i := 3) (v := .int .i64 room) rfl (by kernel_rfl) (by kernel_rfl) (by kernel_rfl) (fun _ _ _ h => h) (.inl ⟨rfl, fun w' hS => by obtain ⟨s1, s2, s3, s4⟩ := hS; go_simp⟩) hS0 ?_
    refine wpAnyH_take (i := 4) (v := .pointer (some ⟨w.heap.size, 2, none⟩)) rfl (by kernel_rfl) (by kernel_rfl) (by kernel_rfl) (fun _ _ _ h => h) (.inl ⟨rfl, fun w' hS => by obtain ⟨s1, s2, s3, s4⟩ := hS; go_simp⟩) hS0 ?_
    refine wpAnyH_take (i := 5) (v := .slice ai its.length ci) rfl (by kernel_rfl) (by kernel_rfl) (by kernel_rfl) (fun _ _ _ h => h) (.inl ⟨rfl, fun w' hS => by obtain ⟨s1, s2, s3, s4⟩ := hS; go_simp⟩) hS0 ?_
    refine wpAnyH_take (i := 6) (v := .int .i64 its.length) rfl (by kernel_rfl) (by kernel_rfl) (by kernel_rfl) (fun _ _ _ h => h) (.inl ⟨rfl, fun w' hS => by obtain ⟨s1, s2, s3, s4⟩ := hS; go_simp⟩) hS0 ?_
    refine wpAnyH_take (i := 8) (v := .pointer (some ⟨w.heap.size, 3, none⟩)) rfl (by kernel_rfl) (by kernel_rfl) (by kernel_rfl) (fun _ _ _ h => h) (.inl ⟨rfl, fun w' hS => by obtain ⟨s1, s2, s3, s4⟩ := hS; go_simp⟩) hS0 ?_
    refine wpAnyH_take (i := 9) (v := .slice ap ts.length cp) rfl (by kernel_rfl) (by kernel_rfl) (by kernel_rfl) (fun _ _ _ h => h) (.inl ⟨rfl, fun w' hS => by obtain ⟨s1, s2, s3, s4⟩ := hS; go_simp⟩) hS0 ?_
    have hec := enters_of Tryz.func81 (by kernel_rfl) rfl
    have hmm := makeItems its.length
    refine held_two 7 10 (by kernel_rfl) ?A ?B
    case A =>
      refine op_value (v := .map (some (w.heap.size + 1))) (w' := ((w.alloc (.cells #[.int .i64 wd, .int .i64 room, .slice ai its.length ci, .slice ap ts.length cp] 34)).alloc (.map #[] 0)).drew) rfl rfl (by go_simp) ⟨⟨(HN.out.alloc (.map #[] 0)).cell 0, (HN.out.alloc (.map #[] 0)).cell 1, (HN.out.alloc (.map #[] 0)).cell 2, (HN.out.alloc (.map #[] 0)).cell 3⟩, ?_⟩
      refine held_one 10 (by kernel_rfl) (op_calls (f := 81) (args := #[.slice ap ts.length cp]) rfl rfl (by go_simp) (HCL.out _ (HRP.out.below (below_drewN ((HA.out.alloc (by simp) (.map #[] 0))) 1))) ?_)
      rintro e w2 ⟨v2, rfl, ho2, hb2⟩
      obtain ⟨a2, c2, rfl, _⟩ := row_form ho2
      have hb2' : Below ((w.alloc (.cells #[.int .i64 wd, .int .i64 room, .slice ai its.length ci, .slice ap ts.length cp] 34)).alloc (.map #[] 0)).heap.size ((w.alloc (.cells #[.int .i64 wd, .int .i64 room, .slice ai its.length ci, .slice ap ts.length cp] 34)).alloc (.map #[] 0)) w2 := ⟨hb2.os, hb2.tape, hb2.output, hb2.size, hb2.block⟩
      have hs2 := hb2'.size
      rw [World.size_alloc, World.size_alloc] at hs2
      have N2 := (HN.out.alloc (.map #[] 0)).below hb2'
      have N3 := N2.alloc (.cells #[.int .i64 wd, .int .i64 room, .int .i64 0, .map (some (w.heap.size + 1)), .slice a2 ts.length c2] 109)
      have hS2 : w2.cell? ⟨w.heap.size, 0, none⟩ = some (.int .i64 wd) ∧ w2.cell? ⟨w.heap.size, 1, none⟩ = some (.int .i64 room) ∧ w2.cell? ⟨w.heap.size, 2, none⟩ = some (.slice ai its.length ci) ∧ w2.cell? ⟨w.heap.size, 3, none⟩ = some (.slice ap ts.length cp) := ⟨N2.cell 0, N2.cell 1, N2.cell 2, N2.cell 3⟩
      have hS3 : (w2.alloc (.cells #[.int .i64 wd, .int .i64 room, .int .i64 0, .map (some (w.heap.size + 1)), .slice a2 ts.length c2] 109)).cell? ⟨w.heap.size, 0, none⟩ = some (.int .i64 wd) ∧ (w2.alloc (.cells #[.int .i64 wd, .int .i64 room, .int .i64 0, .map (some (w.heap.size + 1)), .slice a2 ts.length c2] 109)).cell? ⟨w.heap.size, 1, none⟩ = some (.int .i64 room) ∧ (w2.alloc (.cells #[.int .i64 wd, .int .i64 room, .int .i64 0, .map (some (w.heap.size + 1)), .slice a2 ts.length c2] 109)).cell? ⟨w.heap.size, 2, none⟩ = some (.slice ai its.length ci) ∧ (w2.alloc (.cells #[.int .i64 wd, .int .i64 room, .int .i64 0, .map (some (w.heap.size + 1)), .slice a2 ts.length c2] 109)).cell? ⟨w.heap.size, 3, none⟩ = some (.slice ap ts.length cp) := ⟨N3.cell 0, N3.cell 1, N3.cell 2, N3.cell 3⟩
      have M0 := World.ownsMap_made (w.alloc (.cells #[.int .i64 wd, .int .i64 room, .slice ai its.length ci, .slice ap ts.length cp] 34)) Tryz.prog 9 itemElem
      rw [World.size_alloc] at M0
      have M2 := hid ((M0.kept (grown_of_below hb2') (by simp)).alloc (.cells #[.int .i64 wd, .int .i64 room, .int .i64 0, .map (some (w.heap.size + 1)), .slice a2 ts.length c2] 109))
      have hsa : ((w.alloc (.cells #[.int .i64 wd, .int .i64 room, .slice ai its.length ci, .slice ap ts.length cp] 34)).alloc (.map #[] 0)).drew.heap.size = w.heap.size + 1 + 1 := by show ((w.alloc (.cells #[.int .i64 wd, .int .i64 room, .slice ai its.length ci, .slice ap ts.length cp] 34)).alloc (.map #[] 0)).heap.size = _; simp
      rw [hsa] at ho2
      have O2 := hid (ho2.alloc (.cells #[.int .i64 wd, .int .i64 room, .int .i64 0, .map (some (w.heap.size + 1)), .slice a2 ts.length c2] 109))
      have HL2 := hid fun g (e : (Value.slice a2 ts.length c2).ownBlock = some g) => ho2.lt g e
      have B2 := hid (((((Below.refl (w.heap.size + 1) (w.alloc (.cells #[.int .i64 wd, .int .i64 room, .slice ai its.length ci, .slice ap ts.length cp] 34))).alloc (by simp) (.map #[] 0)).trans (hb2'.mono (by simp))).alloc (by omega) (.cells #[.int .i64 wd, .int .i64 room, .int .i64 0, .map (some (w.heap.size + 1)), .slice a2 ts.length c2] 109)))
      refine ⟨_, rfl, hS2, ?_⟩
      clear hb2 hb2' N2 N3 M0 ho2 hsa
      refine wpAnyH_take (i := 11) (v := .agg #[.int .i64 wd, .int .i64 room, .int .i64 0, .map (some (w.heap.size + 1)), .slice a2 ts.length c2]) rfl (by kernel_rfl) (by kernel_rfl) (by kernel_rfl) (fun _ _ _ h => h) (.inl ⟨rfl, fun w' hS => by obtain ⟨s1, s2, s3, s4⟩ := hS; go_simp⟩) hS2 ?_
      refine held_one 12 (by kernel_rfl) (op_value (v := .pointer (some ⟨w2.heap.size, 0, none⟩)) (w' := w2.alloc (.cells #[.int .i64 wd, .int .i64 room, .int .i64 0, .map (some (w.heap.size + 1)), .slice a2 ts.length c2] 109)) rfl rfl (by go_simp) ⟨hS3, ?_⟩)
      refine wpAnyH_take (i := 13) (v := .pointer (some ⟨w2.heap.size, 0, none⟩)) rfl (by kernel_rfl) (by kernel_rfl) (by kernel_rfl) (fun _ _ _ h => h) (.inl ⟨rfl, fun w' hS => by obtain ⟨s1, s2, s3, s4⟩ := hS; go_simp⟩) hS3 ?_
      refine wpAnyH_done (by kernel_rfl) ?_ _
      clear hS0 hS2 hS3
      go_simp
      go_wp2_with fail
      go_meet
      exact ⟨w2.heap.size, w.heap.size + 1, _, rfl, ⟨Blk.new w2 109 _, M2.out, ownsRow_base O2.out (by omega), by omega, Nat.le_refl _, by omega, fun e => by have := (HL2.out _ e).2; omega, fun e => by have := (HL2.out _ e).1; omega⟩, B2.out⟩
    case B =>
      refine op_calls (f := 81) (args := #[.slice ap ts.length cp]) rfl rfl (by go_simp) (HCL.out _ (HRP.out.below (below_drewN HA.out 1))) ?_
      rintro e w2 ⟨v2, rfl, ho2, hb2⟩
      obtain ⟨a2, c2, rfl, _⟩ := row_form ho2
      have hb2' : Below (w.alloc (.cells #[.int .i64 wd, .int .i64 room, .slice ai its.length ci, .slice ap ts.length cp] 34)).heap.size (w.alloc (.cells #[.int .i64 wd, .int .i64 room, .slice ai its.length ci, .slice ap ts.length cp] 34)) w2 := ⟨hb2.os, hb2.tape, hb2.output, hb2.size, hb2.block⟩
      have hs2 := hb2'.size
      rw [World.size_alloc] at hs2
      have N2 := HN.out.below hb2'
      have N2a := N2.alloc (.map #[] 0)
      have N3 := N2a.alloc (.cells #[.int .i64 wd, .int .i64 room, .int .i64 0, .map (some w2.heap.size), .slice a2 ts.length c2] 109)
      have hS1 : w2.cell? ⟨w.heap.size, 0, none⟩ = some (.int .i64 wd) ∧ w2.cell? ⟨w.heap.size, 1, none⟩ = some (.int .i64 room) ∧ w2.cell? ⟨w.heap.size, 2, none⟩ = some (.slice ai its.length ci) ∧ w2.cell? ⟨w.heap.size, 3, none⟩ = some (.slice ap ts.length cp) := ⟨N2.cell 0, N2.cell 1, N2.cell 2, N2.cell 3⟩
      have hS2 : (w2.alloc (.map #[] 0)).cell? ⟨w.heap.size, 0, none⟩ = some (.int .i64 wd) ∧ (w2.alloc (.map #[] 0)).cell? ⟨w.heap.size, 1, none⟩ = some (.int .i64 room) ∧ (w2.alloc (.map #[] 0)).cell? ⟨w.heap.size, 2, none⟩ = some (.slice ai its.length ci) ∧ (w2.alloc (.map #[] 0)).cell? ⟨w.heap.size, 3, none⟩ = some (.slice ap ts.length cp) := ⟨N2a.cell 0, N2a.cell 1, N2a.cell 2, N2a.cell 3⟩
      have hS3 : ((w2.alloc (.map #[] 0)).alloc (.cells #[.int .i64 wd, .int .i64 room, .int .i64 0, .map (some w2.heap.size), .slice a2 ts.length c2] 109)).cell? ⟨w.heap.size, 0, none⟩ = some (.int .i64 wd) ∧ ((w2.alloc (.map #[] 0)).alloc (.cells #[.int .i64 wd, .int .i64 room, .int .i64 0, .map (some w2.heap.size), .slice a2 ts.length c2] 109)).cell? ⟨w.heap.size, 1, none⟩ = some (.int .i64 room) ∧ ((w2.alloc (.map #[] 0)).alloc (.cells #[.int .i64 wd, .int .i64 room, .int .i64 0, .map (some w2.heap.size), .slice a2 ts.length c2] 109)).cell? ⟨w.heap.size, 2, none⟩ = some (.slice ai its.length ci) ∧ ((w2.alloc (.map #[] 0)).alloc (.cells #[.int .i64 wd, .int .i64 room, .int .i64 0, .map (some w2.heap.size), .slice a2 ts.length c2] 109)).cell? ⟨w.heap.size, 3, none⟩ = some (.slice ap ts.length cp) := ⟨N3.cell 0, N3.cell 1, N3.cell 2, N3.cell 3⟩
      have M2 := hid ((World.ownsMap_made w2 Tryz.prog 9 itemElem).alloc (.cells #[.int .i64 wd, .int .i64 room, .int .i64 0, .map (some w2.heap.size), .slice a2 ts.length c2] 109))
      have hsa : (w.alloc (.cells #[.int .i64 wd, .int .i64 room, .slice ai its.length ci, .slice ap ts.length cp] 34)).drew.heap.size = w.heap.size + 1 := by show (w.alloc (.cells #[.int .i64 wd, .int .i64 room, .slice ai its.length ci, .slice ap ts.length cp] 34)).heap.size = _; simp
      rw [hsa] at ho2
      have O2 := hid ((ho2.alloc (.map #[] 0)).alloc (.cells #[.int .i64 wd, .int .i64 room, .int .i64 0, .map (some w2.heap.size), .slice a2 ts.length c2] 109))
      have HL2 := hid fun g (e : (Value.slice a2 ts.length c2).ownBlock = some g) => ho2.lt g e
      have B2 := hid ((((Below.refl (w.heap.size + 1) (w.alloc (.cells #[.int .i64 wd, .int .i64 room, .slice ai its.length ci, .slice ap ts.length cp] 34))).trans (hb2'.mono (by simp))).alloc (by omega) (.map #[] 0)).alloc (by simp; omega) (.cells #[.int .i64 wd, .int .i64 room, .int .i64 0, .map (some w2.heap.size), .slice a2 ts.length c2] 109))
      refine ⟨_, rfl, hS1, ?_⟩
      refine held_one 7 (by kernel_rfl) (op_value (v := .map (some w2.heap.size)) (w' := w2.alloc (.map #[] 0)) rfl rfl (by go_simp) ⟨hS2, ?_⟩)
      clear hb2 hb2' N2 N2a N3 ho2 hsa hS1
      refine wpAnyH_take (i := 11) (v := .agg #[.int .i64 wd, .int .i64 room, .int .i64 0, .map (some w2.heap.size), .slice a2 ts.length c2]) rfl (by kernel_rfl) (by kernel_rfl) (by kernel_rfl) (fun _ _ _ h => h) (.inl ⟨rfl, fun w' hS => by obtain ⟨s1, s2, s3, s4⟩ := hS; go_simp⟩) hS2 ?_
      refine held_one 12 (by kernel_rfl) (op_value (v := .pointer (some ⟨(w2.heap.size + 1), 0, none⟩)) (w' := (w2.alloc (.map #[] 0)).alloc (.cells #[.int .i64 wd, .int .i64 room, .int .i64 0, .map (some w2.heap.size), .slice a2 ts.length c2] 109)) rfl rfl (by go_simp) ⟨hS3, ?_⟩)
      refine wpAnyH_take (i := 13) (v := .pointer (some ⟨(w2.heap.size + 1), 0, none⟩)) rfl (by kernel_rfl) (by kernel_rfl) (by kernel_rfl) (fun _ _ _ h => h) (.inl ⟨rfl, fun w' hS => by obtain ⟨s1, s2, s3, s4⟩ := hS; go_simp⟩) hS3 ?_
      refine wpAnyH_done (by kernel_rfl) ?_ _
      clear hS0 hS2 hS3
      go_simp
      go_wp2_with fail
      go_meet
      exact ⟨w2.heap.size + 1, w2.heap.size, _, rfl, ⟨by have := Blk.new (w2.alloc (.map #[] 0)) 109 #[.int .i64 wd, .int .i64 room, .int .i64 0, .map (some w2.heap.size), .slice a2 ts.length c2]; rw [World.size_alloc] at this; exact this, M2.out, O2.out, by omega, by omega, by omega, fun e => by have := (HL2.out _ e).2; omega, fun e => by have := (HL2.out _ e).2; omega⟩, B2.out⟩
  case rest =>
    obtain ⟨sb, mb, vc, rfl, hsh, hb⟩ := hcut
    have hbS : Below (w.alloc (.cells #[.int .i64 wd, .int .i64 room, .slice ai its.length ci, .slice ap ts.length cp] 34)).heap.size (w.alloc (.cells #[.int .i64 wd, .int .i64 room, .slice ai its.length ci, .slice ap ts.length cp] 34)) wc := by rw [World.size_alloc]; exact hb
    have y2 : wc.cell? ⟨w.heap.size, 2, none⟩ = some (.slice ai its.length ci) := (HN.out.below hbS).cell 2
    have HS0 := hid hsh
    have HB0 := hid hb
    have HIS := hid fun (t : ByteArray) (ht : t.size ≤ 1048576) W => implSum_any t wd W (by unfold maxLen; omega)
    have HBL := hid fun (t : ByteArray) (ht : t.size ≤ 1048576) W => isBlob_any t W (by unfold maxLen; omega)
    clear hsh hb hbS
    go_wp2
    go_loopw [5, 57] (fun l i wr => ∃ k : Nat, k ≤ its.length ∧ i = .int .i64 k ∧ l = .string (lastK wd its k) ∧ (∀ j, j < k → itemOk wd its j) ∧ (totI (its.take k) : Int) ≤ room ∧ ShelfAt wr (w.heap.size + 1) sb mb vc wd room its ts k ∧ Below (w.heap.size + 1) (w.alloc (.cells #[.int .i64 wd, .int .i64 room, .slice ai its.length ci, .slice ap ts.length cp] 34)) wr) (fun _ i _ => its.length - (intOf i).toNat)
    case atStart => exact ⟨0, Nat.zero_le _, rfl, rfl, fun j hj => absurd hj (by omega), by simp [totI]; omega, HS0.out, HB0.out⟩
    case round =>
      obtain ⟨k, hk, rfl, rfl, hok2, hfit, hsh, hb⟩ := hrel
      have HOK := hid hok2
      have HSH := hid hsh
      have HBB := hid hb
      have hbS : Below (w.alloc (.cells #[.int .i64 wd, .int .i64 room, .slice ai its.length ci, .slice ap ts.length cp] 34)).heap.size (w.alloc (.cells #[.int .i64 wd, .int .i64 room, .slice ai its.length ci, .slice ap ts.length cp] 34)) wr := by rw [World.size_alloc]; exact hb
      have hs1 := hb.size
      rw [World.size_alloc] at hs1
      have HNW := hid (HN.out.below hbS)
      clear hok2 y2
      by_cases hlt : k < its.length
      · obtain ⟨a', c', e', hc⟩ := HRI.out.below hbS
        cases e'
        obtain ⟨b, o, rfl, hbk, h3, h4⟩ := hc k hlt
        have hz := HSI.out k
        have HOKK : Hid (itemOk wd its k ↔ (1 ≤ (itx its k).size ∧ (itx its k).size ≤ 7000) ∧ (0 ≤ itu its k ∧ itu its k ≤ 1000000) ∧ tlt (lastK wd its k) (sumX wd (itx its k)) = true) := itemOk_iff h12.1 h12.2
        have HLAST : Hid (lastK wd its (k + 1) = sumX wd (itx its k)) := by
          show lastK wd its (k + 1) = _
          simp [lastK]
        have HSk : Hid (∀ W, Calls Tryz.prog 83 #[.string (itx its k), .int .i64 wd] W fun e w' => e = .returned (.string (sumX wd (itx its k))) ∧ Below W.heap.size W w') := fun W => HIS.out (itx its k) (HSI.out k) W
        have HBk := hid fun W => HBL.out (itx its k) (HSI.out k) W
        have HTT := hid (totI_take its k hlt)
        have HMP : Hid (mapI wd its (k + 1) = (mapI wd its k).put (.string (sumX wd (itx its k)).data.toList) (.agg [.lit (.string (itx its k).data.toList), .lit (.int .i64 (itu its k))])) := rfl
        have hss := sumX_size wd (itx its k)
        have htot := totI_mono its k
        have HTM := hid (totI_mono its (k + 1))
        have HBX := hid (HA.out.trans ((hb.alloc (by omega) (.cells #[.string (itx its k), .int .i64 (itu its k)] 84)).mono (by omega)))
        have hbx := hsh.box
        generalize hsx : sumX wd (itx its k) = s at *
        generalize lastK wd its k = l at *
        generalize itx its k = t at *
        generalize itu its k = u at *
        generalize htk : totI (its.take k) = tot at *
        have HTK := hid htk
        clear htk
        have XB := hbx.alloc (.cells #[.string t, .int .i64 u] 84)
        have XN := Blk.new wr 84 #[.string t, .int .i64 u]
        have hS0 : (wr.alloc (.cells #[.string t, .int .i64 u] 84)).drew.cell? ⟨wr.heap.size, 0, none⟩ = some (.string t) ∧ (wr.alloc (.cells #[.string t, .int .i64 u] 84)).drew.cell? ⟨wr.heap.size, 1, none⟩ = some (.int .i64 u) ∧ (wr.alloc (.cells #[.string t, .int .i64 u] 84)).drew.cell? ⟨sb, 1, none⟩ = some (.int .i64 room) ∧ (wr.alloc (.cells #[.string t, .int .i64 u] 84)).drew.cell? ⟨sb, 2, none⟩ = some (.int .i64 (tot : Nat)) := ⟨XN.cell 0, XN.cell 1, XB.cell 1, XB.cell 2⟩
        have HXB := hid XB
        have HXN := hid XN
        have hssb := hbx.lt
        clear hc hbS hbx XB XN hsh hsx htot
        have hec := enters_of Tryz.func82 (by kernel_rfl) rfl
        have hec2 := enters_of Tryz.func74 (by kernel_rfl) rfl
        go_wp2_with fail
        refine wp_region_held (S := fun w' => w'.cell? ⟨wr.heap.size, 0, none⟩ = some (.string t) ∧ w'.cell? ⟨wr.heap.size, 1, none⟩ = some (.int .i64 u) ∧ w'.cell? ⟨sb, 1, none⟩ = some (.int .i64 room) ∧ w'.cell? ⟨sb, 2, none⟩ = some (.int .i64 (tot : Nat))) (by kernel_rfl) ?_
        change wpAnyH _ _ _ _ _ _ _ _ (World.drew _)
        refine wpAnyH_take (i := 0) (v := .pointer (some ⟨wr.heap.size, 0, none⟩)) rfl (by kernel_rfl) (by kernel_rfl) (by kernel_rfl) (fun _ _ _ h => h) (.inl ⟨rfl, fun w' hS => by obtain ⟨s1, s2, s3, s4⟩ := hS; go_simp⟩) hS0 ?_
        refine wpAnyH_take (i := 1) (v := .string t) rfl (by kernel_rfl) (by kernel_rfl) (by kernel_rfl) (fun _ _ _ h => h) (.inl ⟨rfl, fun w' hS => by obtain ⟨s1, s2, s3, s4⟩ := hS; go_simp⟩) hS0 ?_
        refine held_one 2 (by kernel_rfl) (op_calls (f := 82) (args := #[.string t]) rfl rfl (by go_simp) (HBk.out _) ?_)
        rintro e w1 ⟨rfl, rfl⟩
        refine ⟨_, rfl, hS0, ?_⟩
        by_cases q1 : 1 ≤ t.size ∧ t.size ≤ 7000
        case neg =>
          have HF : Hid (¬ itemOk wd its k) := fun h => q1 (HOKK.out.1 h).1
          rw [decide_eq_false q1]
          refine wpAnyH_take (i := 3) (v := .bool true) rfl (by kernel_rfl) (by kernel_rfl) (by kernel_rfl) (fun _ _ _ h => h) (.inl ⟨rfl, fun w' hS => by obtain ⟨s1, s2, s3, s4⟩ := hS; go_simp⟩) hS0 ?_
          refine wpAnyH_take (i := 4) (v := .bool true) rfl (by kernel_rfl) (by kernel_rfl) (by kernel_rfl) (fun _ _ _ h => h) (.inl ⟨rfl, fun w' hS => by obtain ⟨s1, s2, s3, s4⟩ := hS; go_simp⟩) hS0 ?_
          refine wpAnyH_take (i := 5) (v := undef) rfl (by kernel_rfl) (by kernel_rfl) (by kernel_rfl) (fun _ _ _ h => h) (.inr ⟨by first | (go_simp; done) | (go_simp; simp [undef]), rfl⟩) hS0 ?_
          refine wpAnyH_take (i := 6) (v := undef) rfl (by kernel_rfl) (by kernel_rfl) (by kernel_rfl) (fun _ _ _ h => h) (.inr ⟨by first | (go_simp; done) | (go_simp; simp [undef]), rfl⟩) hS0 ?_
          refine wpAnyH_take (i := 7) (v := undef) rfl (by kernel_rfl) (by kernel_rfl) (by kernel_rfl) (fun _ _ _ h => h) (.inr ⟨by first | (go_simp; done) | (go_simp; simp [undef]), rfl⟩) hS0 ?_
          refine wpAnyH_take (i := 8) (v := undef) rfl (by kernel_rfl) (by kernel_rfl) (by kernel_rfl) (fun _ _ _ h => h) (.inr ⟨by first | (go_simp; done) | (go_simp; simp [undef]), rfl⟩) hS0 ?_
          refine wpAnyH_take (i := 9) (v := .bool true) rfl (by kernel_rfl) (by kernel_rfl) (by kernel_rfl) (fun _ _ _ h => h) (.inl ⟨rfl, fun w' hS => by obtain ⟨s1, s2, s3, s4⟩ := hS; go_simp⟩) hS0 ?_
          refine wpAnyH_take (i := 10) (v := .bool true) rfl (by kernel_rfl) (by kernel_rfl) (by kernel_rfl) (fun _ _ _ h => h) (.inl ⟨rfl, fun w' hS => by obtain ⟨s1, s2, s3, s4⟩ := hS; go_simp⟩) hS0 ?_
          refine wpAnyH_take (i := 11) (v := undef) rfl (by kernel_rfl) (by kernel_rfl) (by kernel_rfl) (fun _ _ _ h => h) (.inr ⟨by first | (go_simp; done) | (go_simp; simp [undef]), rfl⟩) hS0 ?_
          refine wpAnyH_take (i := 12) (v := undef) rfl (by kernel_rfl) (by kernel_rfl) (by kernel_rfl) (fun _ _ _ h => h) (.inr ⟨by first | (go_simp; done) | (go_simp; simp [undef]), rfl⟩) hS0 ?_
          refine wpAnyH_take (i := 13) (v := undef) rfl (by kernel_rfl) (by kernel_rfl) (by kernel_rfl) (fun _ _ _ h => h) (.inr ⟨by first | (go_simp; done) | (go_simp; simp [undef]), rfl⟩) hS0 ?_
          refine wpAnyH_take (i := 14) (v := undef) rfl (by kernel_rfl) (by kernel_rfl) (by kernel_rfl) (fun _ _ _ h => h) (.inr ⟨by first | (go_simp; done) | (go_simp; simp [undef]), rfl⟩) hS0 ?_
          refine wpAnyH_take (i := 15) (v := undef) rfl (by kernel_rfl) (by kernel_rfl) (by kernel_rfl) (fun _ _ _ h => h) (.inr ⟨by first | (go_simp; done) | (go_simp; simp [undef]), rfl⟩) hS0 ?_
          refine wpAnyH_take (i := 16) (v := undef) rfl (by kernel_rfl) (by kernel_rfl) (by kernel_rfl) (fun _ _ _ h => h) (.inr ⟨by first | (go_simp; done) | (go_simp; simp [undef]), rfl⟩) hS0 ?_
          refine wpAnyH_take (i := 17) (v := undef) rfl (by kernel_rfl) (by kernel_rfl) (by kernel_rfl) (fun _ _ _ h => h) (.inr ⟨by first | (go_simp; done) | (go_simp; simp [undef]), rfl⟩) hS0 ?_
          refine wpAnyH_take (i := 18) (v := undef) rfl (by kernel_rfl) (by kernel_rfl) (by kernel_rfl) (fun _ _ _ h => h) (.inr ⟨by first | (go_simp; done) | (go_simp; simp [undef]), rfl⟩) hS0 ?_
          refine wpAnyH_take (i := 19) (v := undef) rfl (by kernel_rfl) (by kernel_rfl) (by kernel_rfl) (fun _ _ _ h => h) (.inr ⟨by first | (go_simp; done) | (go_simp; simp [undef]), rfl⟩) hS0 ?_
          refine wpAnyH_take (i := 20) (v := undef) rfl (by kernel_rfl) (by kernel_rfl) (by kernel_rfl) (fun _ _ _ h => h) (.inr ⟨by first | (go_simp; done) | (go_simp; simp [undef]), rfl⟩) hS0 ?_
          refine wpAnyH_take (i := 21) (v := undef) rfl (by kernel_rfl) (by kernel_rfl) (by kernel_rfl) (fun _ _ _ h => h) (.inr ⟨by first | (go_simp; done) | (go_simp; simp [undef]), rfl⟩) hS0 ?_
          refine wpAnyH_take (i := 22) (v := undef) rfl (by kernel_rfl) (by kernel_rfl) (by kernel_rfl) (fun _ _ _ h => h) (.inr ⟨by first | (go_simp; done) | (go_simp; simp [undef]), rfl⟩) hS0 ?_
          refine wpAnyH_take (i := 23) (v := undef) rfl (by kernel_rfl) (by kernel_rfl) (by kernel_rfl) (fun _ _ _ h => h) (.inr ⟨by first | (go_simp; done) | (go_simp; simp [undef]), rfl⟩) hS0 ?_
          refine wpAnyH_take (i := 24) (v := .bool true) rfl (by kernel_rfl) (by kernel_rfl) (by kernel_rfl) (fun _ _ _ h => h) (.inl ⟨rfl, fun w' hS => by obtain ⟨s1, s2, s3, s4⟩ := hS; go_simp⟩) hS0 ?_
          refine wpAnyH_done (by kernel_rfl) ?_ _
          clear hS0
          go_simp
          go_wp2
          go_ret2
          exact ORes.no (fun h => HF.out (h.each k hlt)) (below_drewN HBX.out 1)
        rw [decide_eq_true q1]
        refine wpAnyH_take (i := 3) (v := .bool false) rfl (by kernel_rfl) (by kernel_rfl) (by kernel_rfl) (fun _ _ _ h => h) (.inl ⟨rfl, fun w' hS => by obtain ⟨s1, s2, s3, s4⟩ := hS; go_simp⟩) hS0 ?_
        refine wpAnyH_take (i := 4) (v := .bool false) rfl (by kernel_rfl) (by kernel_rfl) (by kernel_rfl) (fun _ _ _ h => h) (.inl ⟨rfl, fun w' hS => by obtain ⟨s1, s2, s3, s4⟩ := hS; go_simp⟩) hS0 ?_
        refine wpAnyH_take (i := 5) (v := .pointer (some ⟨wr.heap.size, 1, none⟩)) rfl (by kernel_rfl) (by kernel_rfl) (by kernel_rfl) (fun _ _ _ h => h) (.inl ⟨by go_simp, fun w' hS => by obtain ⟨s1, s2, s3, s4⟩ := hS; go_simp⟩) hS0 ?_
        refine wpAnyH_take (i := 6) (v := .int .i64 u) rfl (by kernel_rfl) (by kernel_rfl) (by kernel_rfl) (fun _ _ _ h => h) (.inl ⟨by go_simp, fun w' hS => by obtain ⟨s1, s2, s3, s4⟩ := hS; go_simp⟩) hS0 ?_
        refine held_one 7 (by kernel_rfl) ?_
        refine @op_wpW _ _ _ _ _ _ 7 ?oa1 ?hoa1 ?hwa1 ?hha1
        case hoa1 => rfl
        case hwa1 => go_simp
        unfold Oper.wp
        go_simp
        refine (isTime_any u _).mono ?_
        rintro e w1 ⟨rfl, rfl⟩
        refine ⟨hS0, ?_⟩
        by_cases q2 : 0 ≤ u ∧ u ≤ 1000000
        case neg =>
          have HF : Hid (¬ itemOk wd its k) := fun h => q2 (HOKK.out.1 h).2.1
          rw [decide_eq_false q2]
          refine wpAnyH_take (i := 8) (v := .bool true) rfl (by kernel_rfl) (by kernel_rfl) (by kernel_rfl) (fun _ _ _ h => h) (.inl ⟨by go_simp, fun w' hS => by obtain ⟨s1, s2, s3, s4⟩ := hS; go_simp⟩) hS0 ?_
          refine wpAnyH_take (i := 9) (v := .bool true) rfl (by kernel_rfl) (by kernel_rfl) (by kernel_rfl) (fun _ _ _ h => h) (.inl ⟨rfl, fun w' hS => by obtain ⟨s1, s2, s3, s4⟩ := hS; go_simp⟩) hS0 ?_
          refine wpAnyH_take (i := 10) (v := .bool true) rfl (by kernel_rfl) (by kernel_rfl) (by kernel_rfl) (fun _ _ _ h => h) (.inl ⟨rfl, fun w' hS => by obtain ⟨s1, s2, s3, s4⟩ := hS; go_simp⟩) hS0 ?_
          refine wpAnyH_take (i := 11) (v := undef) rfl (by kernel_rfl) (by kernel_rfl) (by kernel_rfl) (fun _ _ _ h => h) (.inr ⟨by first | (go_simp; done) | (go_simp; simp [undef]), rfl⟩) hS0 ?_
          refine wpAnyH_take (i := 12) (v := undef) rfl (by kernel_rfl) (by kernel_rfl) (by kernel_rfl) (fun _ _ _ h => h) (.inr ⟨by first | (go_simp; done) | (go_simp; simp [undef]), rfl⟩) hS0 ?_
          refine wpAnyH_take (i := 13) (v := undef) rfl (by kernel_rfl) (by kernel_rfl) (by kernel_rfl) (fun _ _ _ h => h) (.inr ⟨by first | (go_simp; done) | (go_simp; simp [undef]), rfl⟩) hS0 ?_
          refine wpAnyH_take (i := 14) (v := undef) rfl (by kernel_rfl) (by kernel_rfl) (by kernel_rfl) (fun _ _ _ h => h) (.inr ⟨by first | (go_simp; done) | (go_simp; simp [undef]), rfl⟩) hS0 ?_
          refine wpAnyH_take (i := 15) (v := undef) rfl (by kernel_rfl) (by kernel_rfl) (by kernel_rfl) (fun _ _ _ h => h) (.inr ⟨by first | (go_simp; done) | (go_simp; simp [undef]), rfl⟩) hS0 ?_
          refine wpAnyH_take (i := 16) (v := undef) rfl (by kernel_rfl) (by kernel_rfl) (by kernel_rfl) (fun _ _ _ h => h) (.inr ⟨by first | (go_simp; done) | (go_simp; simp [undef]), rfl⟩) hS0 ?_
          refine wpAnyH_take (i := 17) (v := undef) rfl (by kernel_rfl) (by kernel_rfl) (by kernel_rfl) (fun _ _ _ h => h) (.inr ⟨by first | (go_simp; done) | (go_simp; simp [undef]), rfl⟩) hS0 ?_
          refine wpAnyH_take (i := 18) (v := undef) rfl (by kernel_rfl) (by kernel_rfl) (by kernel_rfl) (fun _ _ _ h => h) (.inr ⟨by first | (go_simp; done) | (go_simp; simp [undef]), rfl⟩) hS0 ?_
          refine wpAnyH_take (i := 19) (v := undef) rfl (by kernel_rfl) (by kernel_rfl) (by kernel_rfl) (fun _ _ _ h => h) (.inr ⟨by first | (go_simp; done) | (go_simp; simp [undef]), rfl⟩) hS0 ?_
          refine wpAnyH_take (i := 20) (v := undef) rfl (by kernel_rfl) (by kernel_rfl) (by kernel_rfl) (fun _ _ _ h => h) (.inr ⟨by first | (go_simp; done) | (go_simp; simp [undef]), rfl⟩) hS0 ?_
          refine wpAnyH_take (i := 21) (v := undef) rfl (by kernel_rfl) (by kernel_rfl) (by kernel_rfl) (fun _ _ _ h => h) (.inr ⟨by first | (go_simp; done) | (go_simp; simp [undef]), rfl⟩) hS0 ?_
          refine wpAnyH_take (i := 22) (v := undef) rfl (by kernel_rfl) (by kernel_rfl) (by kernel_rfl) (fun _ _ _ h => h) (.inr ⟨by first | (go_simp; done) | (go_simp; simp [undef]), rfl⟩) hS0 ?_
          refine wpAnyH_take (i := 23) (v := undef) rfl (by kernel_rfl) (by kernel_rfl) (by kernel_rfl) (fun _ _ _ h => h) (.inr ⟨by first | (go_simp; done) | (go_simp; simp [undef]), rfl⟩) hS0 ?_
          refine wpAnyH_take (i := 24) (v := .bool true) rfl (by kernel_rfl) (by kernel_rfl) (by kernel_rfl) (fun _ _ _ h => h) (.inl ⟨rfl, fun w' hS => by obtain ⟨s1, s2, s3, s4⟩ := hS; go_simp⟩) hS0 ?_
          refine wpAnyH_done (by kernel_rfl) ?_ _
          clear hS0
          go_simp
          go_wp2
          go_ret2
          exact ORes.no (fun h => HF.out (h.each k hlt)) (below_drewN HBX.out 1)
        rw [decide_eq_true q2]
        have hwr : IntKind.i64.wrap (room - (tot : Int)) = room - tot := by rw [IntKind.wrap_i64]; omega
        by_cases q3 : room - (tot : Int) < (t.size : Int)
        case pos =>
          have HF : Hid (¬ ValidSt wd room its ts) := fun h => by have h1 := HTM.out; have h2 := HTT.out; have h3 := h.fits; omega
          refine wpAnyH_take (i := 8) (v := .bool false) rfl (by kernel_rfl) (by kernel_rfl) (by kernel_rfl) (fun _ _ _ h => h) (.inl ⟨by go_simp, fun w' hS => by obtain ⟨s1, s2, s3, s4⟩ := hS; go_simp⟩) hS0 ?_
          refine wpAnyH_take (i := 9) (v := .bool false) rfl (by kernel_rfl) (by kernel_rfl) (by kernel_rfl) (fun _ _ _ h => h) (.inl ⟨rfl, fun w' hS => by obtain ⟨s1, s2, s3, s4⟩ := hS; go_simp⟩) hS0 ?_
          refine wpAnyH_take (i := 10) (v := .bool false) rfl (by kernel_rfl) (by kernel_rfl) (by kernel_rfl) (fun _ _ _ h => h) (.inl ⟨rfl, fun w' hS => by obtain ⟨s1, s2, s3, s4⟩ := hS; go_simp⟩) hS0 ?_
          refine wpAnyH_take (i := 11) (v := .pointer (some ⟨wr.heap.size, 0, none⟩)) rfl (by kernel_rfl) (by kernel_rfl) (by kernel_rfl) (fun _ _ _ h => h) (.inl ⟨by go_simp, fun w' hS => by obtain ⟨s1, s2, s3, s4⟩ := hS; go_simp⟩) hS0 ?_
          refine wpAnyH_take (i := 12) (v := .string t) rfl (by kernel_rfl) (by kernel_rfl) (by kernel_rfl) (fun _ _ _ h => h) (.inl ⟨by go_simp, fun w' hS => by obtain ⟨s1, s2, s3, s4⟩ := hS; go_simp⟩) hS0 ?_
          refine wpAnyH_take (i := 13) (v := .int .i64 t.size) rfl (by kernel_rfl) (by kernel_rfl) (by kernel_rfl) (fun _ _ _ h => h) (.inl ⟨by go_simp, fun w' hS => by obtain ⟨s1, s2, s3, s4⟩ := hS; go_simp⟩) hS0 ?_
          refine wpAnyH_take (i := 14) (v := .pointer (some ⟨sb, 0, none⟩)) rfl (by kernel_rfl) (by kernel_rfl) (by kernel_rfl) (fun _ _ _ h => h) (.inl ⟨by go_simp, fun w' hS => by obtain ⟨s1, s2, s3, s4⟩ := hS; go_simp⟩) hS0 ?_
          refine wpAnyH_take (i := 15) (v := .pointer (some ⟨sb, 0, none⟩)) rfl (by kernel_rfl) (by kernel_rfl) (by kernel_rfl) (fun _ _ _ h => h) (.inl ⟨by go_simp, fun w' hS => by obtain ⟨s1, s2, s3, s4⟩ := hS; go_simp⟩) hS0 ?_
          refine wpAnyH_take (i := 16) (v := .pointer (some ⟨sb, 1, none⟩)) rfl (by kernel_rfl) (by kernel_rfl) (by kernel_rfl) (fun _ _ _ h => h) (.inl ⟨by go_simp, fun w' hS => by obtain ⟨s1, s2, s3, s4⟩ := hS; go_simp⟩) hS0 ?_
          refine wpAnyH_take (i := 17) (v := .int .i64 room) rfl (by kernel_rfl) (by kernel_rfl) (by kernel_rfl) (fun _ _ _ h => h) (.inl ⟨by go_simp, fun w' hS => by obtain ⟨s1, s2, s3, s4⟩ := hS; go_simp⟩) hS0 ?_
          refine wpAnyH_take (i := 18) (v := .pointer (some ⟨sb, 0, none⟩)) rfl (by kernel_rfl) (by kernel_rfl) (by kernel_rfl) (fun _ _ _ h => h) (.inl ⟨by go_simp, fun w' hS => by obtain ⟨s1, s2, s3, s4⟩ := hS; go_simp⟩) hS0 ?_
          refine wpAnyH_take (i := 19) (v := .pointer (some ⟨sb, 0, none⟩)) rfl (by kernel_rfl) (by kernel_rfl) (by kernel_rfl) (fun _ _ _ h => h) (.inl ⟨by go_simp, fun w' hS => by obtain ⟨s1, s2, s3, s4⟩ := hS; go_simp⟩) hS0 ?_
          refine wpAnyH_take (i := 20) (v := .pointer (some ⟨sb, 2, none⟩)) rfl (by kernel_rfl) (by kernel_rfl) (by kernel_rfl) (fun _ _ _ h => h) (.inl ⟨by go_simp, fun w' hS => by obtain ⟨s1, s2, s3, s4⟩ := hS; go_simp⟩) hS0 ?_
          refine wpAnyH_take (i := 21) (v := .int .i64 (tot : Nat)) rfl (by kernel_rfl) (by kernel_rfl) (by kernel_rfl) (fun _ _ _ h => h) (.inl ⟨by go_simp, fun w' hS => by obtain ⟨s1, s2, s3, s4⟩ := hS; go_simp⟩) hS0 ?_
          refine wpAnyH_take (i := 22) (v := .int .i64 (room - tot)) rfl (by kernel_rfl) (by kernel_rfl) (by kernel_rfl) (fun _ _ _ h => h) (.inl ⟨by go_simp, fun w' hS => by obtain ⟨s1, s2, s3, s4⟩ := hS; go_simp⟩) hS0 ?_
          refine wpAnyH_take (i := 23) (v := .bool true) rfl (by kernel_rfl) (by kernel_rfl) (by kernel_rfl) (fun _ _ _ h => h) (.inl ⟨by go_simp, fun w' hS => by obtain ⟨s1, s2, s3, s4⟩ := hS; go_simp⟩) hS0 ?_
          refine wpAnyH_take (i := 24) (v := .bool true) rfl (by kernel_rfl) (by kernel_rfl) (by kernel_rfl) (fun _ _ _ h => h) (.inl ⟨rfl, fun w' hS => by obtain ⟨s1, s2, s3, s4⟩ := hS; go_simp⟩) hS0 ?_
          refine wpAnyH_done (by kernel_rfl) ?_ _
          clear hS0
          go_simp
          go_wp2
          go_ret2
          exact ORes.no HF.out (below_drewN HBX.out 1)
        refine wpAnyH_take (i := 8) (v := .bool false) rfl (by kernel_rfl) (by kernel_rfl) (by kernel_rfl) (fun _ _ _ h => h) (.inl ⟨by go_simp, fun w' hS => by obtain ⟨s1, s2, s3, s4⟩ := hS; go_simp⟩) hS0 ?_
        refine wpAnyH_take (i := 9) (v := .bool false) rfl (by kernel_rfl) (by kernel_rfl) (by kernel_rfl) (fun _ _ _ h => h) (.inl ⟨rfl, fun w' hS => by obtain ⟨s1, s2, s3, s4⟩ := hS; go_simp⟩) hS0 ?_
        refine wpAnyH_take (i := 10) (v := .bool false) rfl (by kernel_rfl) (by kernel_rfl) (by kernel_rfl) (fun _ _ _ h => h) (.inl ⟨rfl, fun w' hS => by obtain ⟨s1, s2, s3, s4⟩ := hS; go_simp⟩) hS0 ?_
        refine wpAnyH_take (i := 11) (v := .pointer (some ⟨wr.heap.size, 0, none⟩)) rfl (by kernel_rfl) (by kernel_rfl) (by kernel_rfl) (fun _ _ _ h => h) (.inl ⟨by go_simp, fun w' hS => by obtain ⟨s1, s2, s3, s4⟩ := hS; go_simp⟩) hS0 ?_
        refine wpAnyH_take (i := 12) (v := .string t) rfl (by kernel_rfl) (by kernel_rfl) (by kernel_rfl) (fun _ _ _ h => h) (.inl ⟨by go_simp, fun w' hS => by obtain ⟨s1, s2, s3, s4⟩ := hS; go_simp⟩) hS0 ?_
        refine wpAnyH_take (i := 13) (v := .int .i64 t.size) rfl (by kernel_rfl) (by kernel_rfl) (by kernel_rfl) (fun _ _ _ h => h) (.inl ⟨by go_simp, fun w' hS => by obtain ⟨s1, s2, s3, s4⟩ := hS; go_simp⟩) hS0 ?_
        refine wpAnyH_take (i := 14) (v := .pointer (some ⟨sb, 0, none⟩)) rfl (by kernel_rfl) (by kernel_rfl) (by kernel_rfl) (fun _ _ _ h => h) (.inl ⟨by go_simp, fun w' hS => by obtain ⟨s1, s2, s3, s4⟩ := hS; go_simp⟩) hS0 ?_
        refine wpAnyH_take (i := 15) (v := .pointer (some ⟨sb, 0, none⟩)) rfl (by kernel_rfl) (by kernel_rfl) (by kernel_rfl) (fun _ _ _ h => h) (.inl ⟨by go_simp, fun w' hS => by obtain ⟨s1, s2, s3, s4⟩ := hS; go_simp⟩) hS0 ?_
        refine wpAnyH_take (i := 16) (v := .pointer (some ⟨sb, 1, none⟩)) rfl (by kernel_rfl) (by kernel_rfl) (by kernel_rfl) (fun _ _ _ h => h) (.inl ⟨by go_simp, fun w' hS => by obtain ⟨s1, s2, s3, s4⟩ := hS; go_simp⟩) hS0 ?_
        refine wpAnyH_take (i := 17) (v := .int .i64 room) rfl (by kernel_rfl) (by kernel_rfl) (by kernel_rfl) (fun _ _ _ h => h) (.inl ⟨by go_simp, fun w' hS => by obtain ⟨s1, s2, s3, s4⟩ := hS; go_simp⟩) hS0 ?_
        refine wpAnyH_take (i := 18) (v := .pointer (some ⟨sb, 0, none⟩)) rfl (by kernel_rfl) (by kernel_rfl) (by kernel_rfl) (fun _ _ _ h => h) (.inl ⟨by go_simp, fun w' hS => by obtain ⟨s1, s2, s3, s4⟩ := hS; go_simp⟩) hS0 ?_
        refine wpAnyH_take (i := 19) (v := .pointer (some ⟨sb, 0, none⟩)) rfl (by kernel_rfl) (by kernel_rfl) (by kernel_rfl) (fun _ _ _ h => h) (.inl ⟨by go_simp, fun w' hS => by obtain ⟨s1, s2, s3, s4⟩ := hS; go_simp⟩) hS0 ?_
        refine wpAnyH_take (i := 20) (v := .pointer (some ⟨sb, 2, none⟩)) rfl (by kernel_rfl) (by kernel_rfl) (by kernel_rfl) (fun _ _ _ h => h) (.inl ⟨by go_simp, fun w' hS => by obtain ⟨s1, s2, s3, s4⟩ := hS; go_simp⟩) hS0 ?_
        refine wpAnyH_take (i := 21) (v := .int .i64 (tot : Nat)) rfl (by kernel_rfl) (by kernel_rfl) (by kernel_rfl) (fun _ _ _ h => h) (.inl ⟨by go_simp, fun w' hS => by obtain ⟨s1, s2, s3, s4⟩ := hS; go_simp⟩) hS0 ?_
        refine wpAnyH_take (i := 22) (v := .int .i64 (room - tot)) rfl (by kernel_rfl) (by kernel_rfl) (by kernel_rfl) (fun _ _ _ h => h) (.inl ⟨by go_simp, fun w' hS => by obtain ⟨s1, s2, s3, s4⟩ := hS; go_simp⟩) hS0 ?_
        refine wpAnyH_take (i := 23) (v := .bool false) rfl (by kernel_rfl) (by kernel_rfl) (by kernel_rfl) (fun _ _ _ h => h) (.inl ⟨by go_simp, fun w' hS => by obtain ⟨s1, s2, s3, s4⟩ := hS; go_simp⟩) hS0 ?_
        refine wpAnyH_take (i := 24) (v := .bool false) rfl (by kernel_rfl) (by kernel_rfl) (by kernel_rfl) (fun _ _ _ h => h) (.inl ⟨rfl, fun w' hS => by obtain ⟨s1, s2, s3, s4⟩ := hS; go_simp⟩) hS0 ?_
        refine wpAnyH_done (by kernel_rfl) ?_ _
        clear hS0 hwr
        have HN1 := HNW.out
        have yw : ∀ o, (wr.alloc o).cell? ⟨w.heap.size, 0, none⟩ = some (.int .i64 wd) := fun o => (HN1.alloc o).cell 0
        clear HN1
        go_simp
        go_wp2_with fail
        refine (HSk.out _).mono ?_
        rintro e w5 ⟨rfl, hb5⟩
        have hb5' : Below (wr.alloc (.cells #[.string t, .int .i64 u] 84)).heap.size (wr.alloc (.cells #[.string t, .int .i64 u] 84)) w5 := ⟨hb5.os, hb5.tape, hb5.output, hb5.size, hb5.block⟩
        have X5 := HXN.out.below hb5'
        have SH5 := HSH.out.below (((Below.refl wr.heap.size wr).alloc (Nat.le_refl _) (.cells #[.string t, .int .i64 u] 84)).trans (hb5'.mono (by simp)))
        have HB5 := hid ((HBB.out.alloc (by omega) (.cells #[.string t, .int .i64 u] 84)).trans (hb5'.mono (by simp; omega)))
        have HBW5 := hid (HA.out.trans (HB5.out.mono (by omega)))
        have HX5 := hid X5
        have HSH5 := hid SH5
        clear hb5 hb5' yw X5 SH5 HXN HXB HBX
        cases hp : tlt l s with
        | false =>
          have HF : Hid (¬ itemOk wd its k) := fun h => by have := (HOKK.out.1 h).2.2; rw [hp] at this; cases this
          have hle := tlt_leq s l
          rw [hp] at hle
          clear hp
          cases hl1 : Op.bytesLess s.toList l.toList with
          | true =>
            clear hle
            go_wp2
            go_ret2
            exact ORes.no (fun h => HF.out (h.each k hlt)) HBW5.out
          | false =>
            have hl2 : (s.toList == l.toList) = true := by rw [hl1] at hle; simpa using hle
            clear hle
            go_wp2
            go_ret2
            exact ORes.no (fun h => HF.out (h.each k hlt)) HBW5.out
        | true =>
          have HK : Hid (itemOk wd its k) := HOKK.out.2 ⟨q1, q2, hp⟩
          have hle := tlt_leq s l
          rw [hp] at hle
          have hl1 : Op.bytesLess s.toList l.toList = false := (Bool.or_eq_false_iff.1 hle).1
          have hl2 : (s.toList == l.toList) = false := (Bool.or_eq_false_iff.1 hle).2
          clear hle hp
          have hT0 : w5.drew.cell? ⟨sb, 3, none⟩ = some (.map (some mb)) ∧ w5.drew.cell? ⟨wr.heap.size, 0, none⟩ = some (.string t) ∧ w5.drew.cell? ⟨wr.heap.size, 1, none⟩ = some (.int .i64 u) := ⟨HSH5.out.box.cell 3, HX5.out.cell 0, HX5.out.cell 1⟩
          go_wp2_with fail
          refine wp_region_held (S := fun w' => w'.cell? ⟨sb, 3, none⟩ = some (.map (some mb)) ∧ w'.cell? ⟨wr.heap.size, 0, none⟩ = some (.string t) ∧ w'.cell? ⟨wr.heap.size, 1, none⟩ = some (.int .i64 u)) (by kernel_rfl) ?_
          change wpAnyH _ _ _ _ _ _ _ _ (World.drew _)
          refine wpAnyH_take (i := 0) (v := .pointer (some ⟨sb, 0, none⟩)) rfl (by kernel_rfl) (by kernel_rfl) (by kernel_rfl) (fun _ _ _ h => h) (.inl ⟨rfl, fun w' hS => by obtain ⟨s1, s2, s3⟩ := hS; go_simp⟩) hT0 ?_
          refine wpAnyH_take (i := 1) (v := .pointer (some ⟨sb, 0, none⟩)) rfl (by kernel_rfl) (by kernel_rfl) (by kernel_rfl) (fun _ _ _ h => h) (.inl ⟨rfl, fun w' hS => by obtain ⟨s1, s2, s3⟩ := hS; go_simp⟩) hT0 ?_
          refine wpAnyH_take (i := 2) (v := .pointer (some ⟨sb, 3, none⟩)) rfl (by kernel_rfl) (by kernel_rfl) (by kernel_rfl) (fun _ _ _ h => h) (.inl ⟨rfl, fun w' hS => by obtain ⟨s1, s2, s3⟩ := hS; go_simp⟩) hT0 ?_
          refine wpAnyH_take (i := 3) (v := .map (some mb)) rfl (by kernel_rfl) (by kernel_rfl) (by kernel_rfl) (fun _ _ _ h => h) (.inl ⟨rfl, fun w' hS => by obtain ⟨s1, s2, s3⟩ := hS; go_simp⟩) hT0 ?_
          refine wpAnyH_take (i := 4) (v := .string s) rfl (by kernel_rfl) (by kernel_rfl) (by kernel_rfl) (fun _ _ _ h => h) (.inl ⟨rfl, fun w' hS => by obtain ⟨s1, s2, s3⟩ := hS; go_simp⟩) hT0 ?_
          refine wpAnyH_take (i := 5) (v := .agg #[.string t, .int .i64 u]) rfl (by kernel_rfl) (by kernel_rfl) (by kernel_rfl) (fun _ _ _ h => h) (.inl ⟨rfl, fun w' hS => by obtain ⟨s1, s2, s3⟩ := hS; go_simp⟩) hT0 ?_
          have MD := World.ownsMap.drew HSH5.out.map
          obtain ⟨w6, hrun, hm6, hg6⟩ := MD.update keyed9 Tryz.underlying107 (by unfold maxLen; omega) (key9 s (by unfold maxLen; omega)) (itemElem_mk t u)
          have hne1 : some sb ≠ some mb := fun e => HSH5.out.ne (by cases e; rfl)
          have hmlt := HSH.out.map.lt
          have hne2 : some wr.heap.size ≠ some mb := fun e => by cases e; omega
          have hg6' : w5.grownBy w6 (some mb) := ⟨hg6.os, hg6.tape, hg6.output, hg6.size, hg6.block⟩
          have bx6 := HSH5.out.box.kept hg6' hne1
          have X6 := HX5.out.kept hg6' hne2
          have hT6 : w6.cell? ⟨sb, 3, none⟩ = some (.map (some mb)) ∧ w6.cell? ⟨wr.heap.size, 0, none⟩ = some (.string t) ∧ w6.cell? ⟨wr.heap.size, 1, none⟩ = some (.int .i64 u) := ⟨bx6.cell 3, X6.cell 0, X6.cell 1⟩
          refine held_one 6 (by kernel_rfl) (op_skip (w' := w6) rfl rfl (by go_simp) ⟨hT6, wpAnyH_done (by kernel_rfl) ?_ _⟩)
          have HB6 := hid (HB5.out.grown hg6' (by have := HB5.out.size; simp at this; omega) (fun g e => by cases e; exact HSH5.out.hm))
          have c2 : w6.cell? ⟨sb, 2, none⟩ = some (.int .i64 (tot : Nat)) := (bx6.cell 2).trans (by show some (Value.int .i64 ((totI (its.take k) : Nat) : Int)) = _; rw [HTK.out])
          have fz2 := bx6.fz 2
          have cx : w6.cell? ⟨wr.heap.size, 0, none⟩ = some (.string t) := X6.cell 0
          have hwt : IntKind.i64.wrap ((tot : Int) + (t.size : Int)) = tot + t.size := by rw [IntKind.wrap_i64]; omega
          have hnx : sb ≠ wr.heap.size := by omega
          have X7 := X6.kept (grownBy_setCellAt w6 sb 2 (.int .i64 ((tot : Int) + t.size))) (fun e => hnx (by cases e; rfl))
          have hU0 : w6.drew.cell? ⟨wr.heap.size, 0, none⟩ = some (.string t) := cx
          have hU1 : (w6.setCell ⟨sb, 2, none⟩ (.int .i64 ((tot : Int) + t.size))).drew.cell? ⟨wr.heap.size, 0, none⟩ = some (.string t) := X7.cell 0
          have HFIN := hid (HSH5.out.put (n' := tot + t.size) (by rw [HMP.out]; exact hm6) hg6' HTT.out)
          clear hT0 hT6 hrun hm6 hg6 hg6' MD X6 bx6 X7 hl1 hl2
          go_simp
          go_wp2_with fail
          refine wp_region_held (S := fun w' => w'.cell? ⟨wr.heap.size, 0, none⟩ = some (.string t)) (by kernel_rfl) ?_
          change wpAnyH _ _ _ _ _ _ _ _ (World.drew _)
          refine wpAnyH_take (i := 0) (v := .pointer (some ⟨sb, 0, none⟩)) rfl (by kernel_rfl) (by kernel_rfl) (by kernel_rfl) (fun _ _ _ h => h) (.inl ⟨rfl, fun w' hS => by obtain s1 := hS; go_simp⟩) hU0 ?_
          refine wpAnyH_take (i := 1) (v := .pointer (some ⟨sb, 0, none⟩)) rfl (by kernel_rfl) (by kernel_rfl) (by kernel_rfl) (fun _ _ _ h => h) (.inl ⟨rfl, fun w' hS => by obtain s1 := hS; go_simp⟩) hU0 ?_
          refine wpAnyH_take (i := 2) (v := .pointer (some ⟨sb, 2, none⟩)) rfl (by kernel_rfl) (by kernel_rfl) (by kernel_rfl) (fun _ _ _ h => h) (.inl ⟨rfl, fun w' hS => by obtain s1 := hS; go_simp⟩) hU0 ?_
          refine wpAnyH_take (i := 4) (v := .pointer (some ⟨wr.heap.size, 0, none⟩)) rfl (by kernel_rfl) (by kernel_rfl) (by kernel_rfl) (fun _ _ _ h => h) (.inl ⟨rfl, fun w' hS => by obtain s1 := hS; go_simp⟩) hU0 ?_
          refine wpAnyH_take (i := 5) (v := .string t) rfl (by kernel_rfl) (by kernel_rfl) (by kernel_rfl) (fun _ _ _ h => h) (.inl ⟨rfl, fun w' hS => by obtain s1 := hS; go_simp⟩) hU0 ?_
          refine wpAnyH_take (i := 6) (v := .int .i64 t.size) rfl (by kernel_rfl) (by kernel_rfl) (by kernel_rfl) (fun _ _ _ h => h) (.inl ⟨rfl, fun w' hS => by obtain s1 := hS; go_simp⟩) hU0 ?_
          refine held_one 3 (by kernel_rfl) (op_value (v := .int .i64 (tot : Nat)) (w' := w6.drew) rfl rfl (by go_simp) ⟨hU0, ?_⟩)
          refine wpAnyH_take (i := 7) (v := .int .i64 ((tot : Int) + t.size)) rfl (by kernel_rfl) (by kernel_rfl) (by kernel_rfl) (fun _ _ _ h => h) (.inl ⟨rfl, fun w' hS => by obtain s1 := hS; go_simp⟩) hU0 ?_
          refine wpAnyH_take (i := 8) (v := .pointer (some ⟨sb, 0, none⟩)) rfl (by kernel_rfl) (by kernel_rfl) (by kernel_rfl) (fun _ _ _ h => h) (.inl ⟨rfl, fun w' hS => by obtain s1 := hS; go_simp⟩) hU0 ?_
          refine wpAnyH_take (i := 9) (v := .pointer (some ⟨sb, 2, none⟩)) rfl (by kernel_rfl) (by kernel_rfl) (by kernel_rfl) (fun _ _ _ h => h) (.inl ⟨rfl, fun w' hS => by obtain s1 := hS; go_simp⟩) hU0 ?_
          refine held_one 10 (by kernel_rfl) (op_skip (w' := (w6.setCell ⟨sb, 2, none⟩ (.int .i64 ((tot : Int) + t.size))).drew) rfl rfl (by go_simp) ⟨hU1, wpAnyH_done (by kernel_rfl) ?_ _⟩)
          clear hU0 hU1
          go_simp
          go_wp2
          refine ⟨⟨k + 1, by omega, by go_num, by rw [HLAST.out], fun j hj => (Nat.lt_or_eq_of_le (Nat.le_of_lt_succ hj)).elim (HOK.out j) (fun e => e ▸ HK.out), by rw [HTT.out]; omega, ?_, ?_⟩, by simp [intOf]; omega⟩
          · have h := HFIN.out
            rw [show ((tot + t.size : Nat) : Int) = (tot : Int) + t.size by omega] at h
            exact h.below (below_drewN (Below.refl _ _) 1)
          · exact below_drewN (HB6.out.setCell (p := ⟨sb, 2, none⟩) (by have := HSH5.out.hs; simpa using this) _) 1
      · obtain rfl : k = its.length := by omega
        rw [List.take_length] at hfit
        have HVAL := hid (HV.out HOK.out hfit)
        have HBW := hid (HA.out.trans (hb.mono (by omega)))
        clear hbS hsh hb
        go_wp2
        go_ret2
        refine .inr ⟨HVAL.out, sb, mb, vc, rfl, ?_, HBW.out⟩
        have h := HSH.out
        exact ⟨h.box, h.map, ownsRow_base h.row (by omega), by have := h.hs; omega, by have := h.hm; omega, h.ne, h.ns, h.nm⟩
end Go.Proofs.YtlnkhbnbcmllaaaGreat
