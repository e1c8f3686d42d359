import Derived.Test.YtiidodobadamgaaGreatDoorLoadUnder
import Derived.Test.YtiidodobadamgaaGreatDoorInList
/- What a list lacks: the sums whose pieces are not there, each once, in their order. -/
namespace Go.Proofs.YtiidodobadamgaaGreatDoor
open Go.RowKit
def lkB (wd : Int) (its : Itms) (s : ByteArray) : Bool := (List.range its.length).all fun i => decide (sumX wd (itx its i) ≠ s)
theorem lkB_iff (wd : Int) (its : Itms) (s : ByteArray) : lkB wd its s = true ↔ Absent wd its s := by
  unfold lkB Absent
  simp [List.all_eq_true]
def addL (wd : Int) (its : Itms) (out : List ByteArray) (s : ByteArray) : List ByteArray := if lkB wd its s = true ∧ inB out s = false then out ++ [s] else out
def lackN (wd : Int) (its : Itms) (ss : List ByteArray) (k : Nat) : List ByteArray := (ss.take k).foldl (addL wd its) []
theorem lackN_succ {wd : Int} {its : Itms} {ss : List ByteArray} {k : Nat} (h : k < ss.length) : lackN wd its ss (k + 1) = addL wd its (lackN wd its ss k) (tv ss k) := by
  unfold lackN
  rw [List.take_succ_eq_append_getElem h, List.foldl_append]
  have e : tv ss k = ss[k] := by simp [tv, h]
  rw [e]
  rfl
theorem addL_len (wd : Int) (its : Itms) (out : List ByteArray) (s : ByteArray) : (addL wd its out s).length ≤ out.length + 1 := by
  unfold addL
  split <;> simp
theorem foldL_len (wd : Int) (its : Itms) : ∀ (l out : List ByteArray), (l.foldl (addL wd its) out).length ≤ out.length + l.length
  | [], _ => Nat.le_refl _
  | s :: l, out => by
    have h1 := foldL_len wd its l (addL wd its out s)
    have h2 := addL_len wd its out s
    simp only [List.foldl_cons, List.length_cons]
    omega
theorem lackN_len (wd : Int) (its : Itms) (ss : List ByteArray) (k : Nat) : (lackN wd its ss k).length ≤ k := by
  have h := foldL_len wd its (ss.take k) []
  have h2 := List.length_take_le k ss
  unfold lackN
  simp only [List.length_nil] at h
  omega
theorem foldL_mem (wd : Int) (its : Itms) : ∀ (l out : List ByteArray) (x : ByteArray), x ∈ l.foldl (addL wd its) out → x ∈ out ∨ x ∈ l
  | [], _, _, h => .inl h
  | s :: l, out, x, h => by
    rcases foldL_mem wd its l (addL wd its out s) x h with h1 | h1
    · unfold addL at h1
      split at h1
      · rcases List.mem_append.1 h1 with h2 | h2
        · exact .inl h2
        · exact .inr (by rw [List.mem_singleton.1 h2]; exact List.mem_cons_self)
      · exact .inl h1
    · exact .inr (List.mem_cons_of_mem _ h1)
theorem lackN_mem {wd : Int} {its : Itms} {ss : List ByteArray} {k : Nat} {x : ByteArray} (h : x ∈ lackN wd its ss k) : x ∈ ss := by
  rcases foldL_mem wd its _ _ _ h with h | h
  · cases h
  · exact List.mem_of_mem_take h
theorem addL_have {wd : Int} {its : Itms} {out : List ByteArray} {s t : ByteArray} (h : Found wd its s t) : addL wd its out s = out := by
  unfold addL
  rw [if_neg]
  rintro ⟨h1, _⟩
  exact h.not ((lkB_iff wd its s).1 h1)
theorem addL_told {wd : Int} {its : Itms} {out : List ByteArray} {s : ByteArray} (h : inB out s = true) : addL wd its out s = out := by
  unfold addL
  rw [if_neg]
  rintro ⟨_, h1⟩
  rw [h] at h1
  cases h1
theorem addL_new {wd : Int} {its : Itms} {out : List ByteArray} {s : ByteArray} (h : Absent wd its s) (hn : inB out s = false) : addL wd its out s = out ++ [s] := by
  unfold addL
  rw [if_pos ⟨(lkB_iff wd its s).2 h, hn⟩]
/-- What a thing lacks. -/
def LackU (wd : Int) (its : Itms) (name : ByteArray) (out : List ByteArray) : Prop := (∃ n ss, UL wd its name n ss false ∧ out = [name]) ∨ (∃ n ss, UL wd its name n ss true ∧ out = lackN wd its ss ss.length)
theorem LackU.uniq {wd : Int} {its : Itms} {name : ByteArray} {o o' : List ByteArray} (hN : (sumsL wd its).Pairwise (· < ·)) (h : LackU wd its name o) (k : LackU wd its name o') : o = o' := by
  rcases h with ⟨n, ss, h, rfl⟩ | ⟨n, ss, h, rfl⟩ <;> rcases k with ⟨n', ss', k, rfl⟩ | ⟨n', ss', k, rfl⟩
  · rfl
  · obtain ⟨_, _, e⟩ := h.uniq hN k; cases e
  · obtain ⟨_, _, e⟩ := h.uniq hN k; cases e
  · obtain ⟨_, rfl, _⟩ := h.uniq hN k; rfl
theorem LackU.few {wd : Int} {its : Itms} {name : ByteArray} {o : List ByteArray} (h : LackU wd its name o) : o.length ≤ 375 ∧ ∀ x ∈ o, x = name ∨ ((x.size : Int) = wd ∧ isW wd = true) := by
  rcases h with ⟨n, ss, h, rfl⟩ | ⟨n, ss, h, rfl⟩
  · exact ⟨by simp, fun x hx => .inl (List.mem_singleton.1 hx)⟩
  · obtain ⟨h1, _, h3⟩ := h.few
    have := lackN_len wd its ss ss.length
    exact ⟨by omega, fun x hx => .inr (h3 x (lackN_mem hx))⟩
/-- What Lacks answers. -/
def LacksV (wd room : Int) (its : Itms) (ts : List ByteArray) (name : ByteArray) (out : List ByteArray) : Prop := (¬ (ValidSt wd room its ts ∧ (name.size : Int) = wd) ∧ out = []) ∨ ((ValidSt wd room its ts ∧ (name.size : Int) = wd) ∧ LackU wd its name out)
theorem LacksV.uniq {wd room : Int} {its : Itms} {ts : List ByteArray} {name : ByteArray} {o o' : List ByteArray} (h : LacksV wd room its ts name o) (k : LacksV wd room its ts name o') : o = o' := by
  rcases h with ⟨hn, rfl⟩ | ⟨hv, h⟩ <;> rcases k with ⟨kn, rfl⟩ | ⟨kv, k⟩
  · rfl
  · exact absurd kv hn
  · exact absurd hv kn
  · exact h.uniq (sums_asc hv.1.each) k
theorem LacksV.len {wd room : Int} {its : Itms} {ts : List ByteArray} {name : ByteArray} {o : List ByteArray} (h : LacksV wd room its ts name o) : o.length ≤ 375 := by
  rcases h with ⟨_, rfl⟩ | ⟨_, h⟩
  · simp
  · exact h.few.1
end Go.Proofs.YtiidodobadamgaaGreatDoor
/- onePiece.lacked, wholeList.lacked, impl.Lacks. -/
namespace Go.Proofs.YtiidodobadamgaaGreatDoor
open Go.RowKit
theorem lackOne (x : Value) (W : World) : (callMethod (.iface 77 x) "loop.example/kilnpass/impl.lacked" #[]).run Tryz.prog W = .ok (.enter 141 #[x]) W := by kernel_rfl
theorem lackWhole (x : Value) (W : World) : (callMethod (.iface 82 x) "loop.example/kilnpass/impl.lacked" #[]).run Tryz.prog W = .ok (.enter 143 #[x]) W := by kernel_rfl
theorem row_lower {w : World} {B B' n : Nat} {v : Value} {xs : List Value} (h : w.ownsRow B 9 1 v n xs) (hb : B' ≤ B) : w.ownsRow B' 9 1 v n xs :=
  ⟨h.1, h.2.imp id (fun ⟨g, cap, cur, e, h1, r⟩ => ⟨g, cap, cur, e, Nat.le_trans hb h1, r⟩)⟩
theorem row_one (w : World) (s : ByteArray) (B : Nat) (hB : B ≤ w.heap.size) : (w.alloc (.cells #[.string s] 9)).ownsRow B 9 1 (.slice (some ⟨w.heap.size, 0, none⟩) 1 1) 1 [.string s] :=
  ⟨by simp, .inr ⟨w.heap.size, 1, #[.string s], rfl, hB, World.alloc_heap_new w _, Nat.le_refl _, by simp [maxLen], by simp, by simp⟩⟩
set_option maxRecDepth 100000 in
set_option maxHeartbeats 1000000 in
theorem oneLacked_any (s t : ByteArray) (there : Bool) (w : World) :
    Calls Tryz.prog 141 #[.agg #[.string s, .string t, .bool there]] w fun e w' => ((there = true ∧ e = .returned (.slice none 0 0)) ∨ (there = false ∧ ∃ g, e = .returned (.slice (some ⟨g, 0, none⟩) 1 1) ∧ w'.ownsRow w.heap.size 9 1 (.slice (some ⟨g, 0, none⟩) 1 1) 1 [.string s])) ∧ Below w.heap.size w w' := by
  have HA := hid ((Below.refl w.heap.size w).alloc (Nat.le_refl _) (.cells #[.string s, .string t, .bool there] 77))
  cases there with
  | true =>
    go_enter Tryz.func141, Tryz.ntmps141
    go_wp2
    go_ret
    exact ⟨.inl ⟨trivial, rfl⟩, HA.out⟩
  | false =>
    have R := row_one (w.alloc (.cells #[.string s, .string t, .bool false] 77)) s w.heap.size (by simp)
    rw [World.size_alloc] at R
    have HR := hid R
    have HB := hid (HA.out.alloc HA.out.size (.cells #[.string s] 9))
    clear R
    go_enter Tryz.func141, Tryz.ntmps141
    go_wp2
    go_ret
    exact ⟨.inr ⟨trivial, _, rfl, HR.out⟩, HB.out⟩
set_option maxRecDepth 100000 in
set_option maxHeartbeats 8000000 in
theorem wholeLacked_any (wd : Int) (its : Itms) (n : Int) (vl vp : Value) (ss : List ByteArray) (vs : List Value) (B : Nat) (w : World) (hl : ∃ a l c, vl = .slice a l c) (hrow : w.ownsRow B 47 1 vp ss.length vs) (hpo : PartsOf wd its ss ss.length vs) (hfew : ss.length ≤ 375) (hss : ∀ i, (tv ss i).size ≤ 1048576) :
    Calls Tryz.prog 143 #[.agg #[.int .i64 n, vl, .int .i64 wd, vp]] w fun e w' => ∃ v, e = .returned v ∧ w'.ownsRow (w.heap.size + 2) 9 1 v (lackN wd its ss ss.length).length ((lackN wd its ss ss.length).map Value.string) ∧ Below w.heap.size w w' := by
  obtain ⟨i0, hi0, hz0, hz1, hz2⟩ := info_parts Tryz.info9
  obtain ⟨al, ll, cl, rfl⟩ := hl
  obtain ⟨ap, cp, rfl⟩ := parts_form hrow
  have hA := (Below.refl w.heap.size w).alloc (Nat.le_refl _) (.cells #[.int .i64 n, .slice al ll cl, .int .i64 wd, .slice ap ss.length cp] 82)
  have hM := hA.alloc hA.size (.map #[] 0)
  have hmk := makeSet (w.alloc (.cells #[.int .i64 n, .slice al ll cl, .int .i64 wd, .slice ap ss.length cp] 82))
  rw [World.size_alloc] at hmk
  have M0 : ((w.alloc (.cells #[.int .i64 n, .slice al ll cl, .int .i64 wd, .slice ap ss.length cp] 82)).alloc (.map #[] 0)).ownsMap Tryz.prog 9 unitE (w.heap.size + 1) 0 (.map []) := by
    have := World.ownsMap_made (w.alloc (.cells #[.int .i64 n, .slice al ll cl, .int .i64 wd, .slice ap ss.length cp] 82)) Tryz.prog 9 unitE
    rw [World.size_alloc] at this
    exact this
  have HM0 := hid M0
  have HR := hid (part_below hrow hA)
  have HPO := hid hpo
  have HSS := hid hss
  have HA := hid hA
  have HM := hid hM
  have hN : (w.alloc (.cells #[.int .i64 n, .slice al ll cl, .int .i64 wd, .slice ap ss.length cp] 82)).cell? ⟨w.heap.size, 3, none⟩ = some (.slice ap ss.length cp) := (Blk.new w 82 _).cell 3
  have hN1 : ∀ o, ((w.alloc (.cells #[.int .i64 n, .slice al ll cl, .int .i64 wd, .slice ap ss.length cp] 82)).alloc o).cell? ⟨w.heap.size, 3, none⟩ = some (.slice ap ss.length cp) := fun o => ((Blk.new w 82 _).alloc o).cell 3
  clear hrow hpo hss hA hM M0
  go_enter Tryz.func143, Tryz.ntmps143
  go_wp2_with fail
  clear hmk hN hN1
  go_loopw [3, 15] (fun v i' wr => ∃ (k nn : Nat) (D : DataW Unit), k ≤ ss.length ∧ i' = .int .i64 k ∧ wr.ownsRow (w.heap.size + 2) 9 1 v (lackN wd its ss k).length ((lackN wd its ss k).map Value.string) ∧ wr.ownsMap Tryz.prog 9 unitE (w.heap.size + 1) nn D ∧ nn ≤ k ∧ SetIs D (fun x => x ∈ lackN wd its ss k) ∧ Below (w.heap.size + 1) (w.alloc (.cells #[.int .i64 n, .slice al ll cl, .int .i64 wd, .slice ap ss.length cp] 82)) wr ∧ w.heap.size + 2 ≤ wr.heap.size) (fun _ i' _ => ss.length - (intOf i').toNat)
  case atStart => exact ⟨0, 0, _, Nat.zero_le _, rfl, ⟨rfl, .inl ⟨rfl, rfl⟩⟩, HM0.out, Nat.le_refl _, SetIs.none (fun x h => by cases h), (Below.refl _ _).alloc (by simp) _, by simp⟩
  case round =>
    obtain ⟨k, nn, D, hk, rfl, hown, hmap, hnn, hset, hbl, hsz⟩ := hrel
    have hbl' : Below (w.alloc (.cells #[.int .i64 n, .slice al ll cl, .int .i64 wd, .slice ap ss.length cp] 82)).heap.size (w.alloc (.cells #[.int .i64 n, .slice al ll cl, .int .i64 wd, .slice ap ss.length cp] 82)) wr := by rw [World.size_alloc]; exact hbl
    have hlen := lackN_len wd its ss k
    have HOW := hid hown
    have HMP := hid hmap
    have HST := hid hset
    have HBL := hid hbl
    obtain ⟨av, cv, rfl, _⟩ := row_form hown
    by_cases hlt : k < ss.length
    case neg =>
      obtain rfl : k = ss.length := by omega
      have HB := hid (HA.out.trans (hbl.mono (Nat.le_succ _)))
      clear hown hmap hset hbl hbl'
      go_wp2
      go_ret
      exact ⟨_, rfl, HOW.out, HB.out⟩
    obtain ⟨t, b, hvk, hpc⟩ := HPO.out.2 k hlt
    have HRR := hid (part_below HR.out hbl')
    obtain ⟨g, e', hgl, hcell⟩ : ∃ g, ap = some ⟨g, 0, none⟩ ∧ g < wr.heap.size ∧ wr.cell? ⟨g, k, none⟩ = some (partV (tv ss k) t b) := by
      have hl2 := HRR.out.lt
      rcases id HRR.out with ⟨_, ⟨e1, e2⟩ | ⟨g, cap, cur, e1, _⟩⟩
      · omega
      · have ea : ap = some ⟨g, 0, none⟩ := (Value.slice.inj e1).1
        subst ea
        have hc := HRR.out.cellAt k (by omega)
        exact ⟨g, rfl, (hl2 g rfl).2, by rw [hc, hvk]⟩
    subst e'
    have HSUC := hid (lackN_succ (wd := wd) (its := its) hlt)
    have hxs := HSS.out k
    have HPC := hid hpc
    generalize tv ss k = x at hcell HSUC hxs HPC
    have HON := hid (oneLacked_any x t b wr)
    have hin := fun W => lackOne (.agg #[.string x, .string t, .bool b]) W
    clear hown hmap hset hbl hbl' hvk hpc hgl
    go_wp2_with fail
    refine HON.out.mono ?_
    rintro e w3 ⟨hcase, hb3⟩
    have hs3 := hb3.size
    have D3 := HBL.out.trans (hb3.mono (by omega))
    have R3 := Below.row hb3 HOW.out
    have M3 := HMP.out.kept (grown_of_below hb3) (by simp)
    have HD3 := hid D3
    have HR3 := hid R3
    have HM3 := hid M3
    have hml := M3.lt
    clear hb3 D3 R3 M3 hcell hin
    rcases hcase with ⟨rfl, rfl⟩ | ⟨rfl, g3, rfl, hrow3⟩
    · have HE : Hid (lackN wd its ss (k + 1) = lackN wd its ss k) := by
        show lackN wd its ss (k + 1) = lackN wd its ss k
        rw [HSUC.out]
        rcases HPC.out with ⟨_, h⟩ | ⟨h, _⟩
        · exact addL_have h
        · cases h
      go_wp2_with fail
      go_loopw [3, 22] (fun v i' wz => v = .slice av (lackN wd its ss k).length cv ∧ i' = .int .i64 0 ∧ wz = w3) (fun _ _ _ => 0)
      case atStart => exact ⟨rfl, rfl, rfl⟩
      case round =>
        obtain ⟨rfl, rfl, rfl⟩ := hrel
        go_wp2
        exact ⟨⟨k + 1, nn, D, by omega, by go_num, by rw [HE.out]; exact HR3.out, HM3.out, by omega, by rw [HE.out]; exact HST.out, HD3.out, by omega⟩, by simp [intOf]; omega⟩
    · have hab : Absent wd its x := by
        rcases HPC.out with ⟨h, _⟩ | ⟨_, h, _⟩
        · cases h
        · exact h
      have HAB := hid hab
      have hc3 : w3.cell? ⟨g3, 0, none⟩ = some (.string x) := hrow3.cellAt 0 (by omega)
      clear hab hrow3
      go_wp2_with fail
      go_loopw [3, 22] (fun v i' wz => ∃ (m nn' : Nat) (D' : DataW Unit) (o' : List ByteArray), i' = .int .i64 m ∧ ((m = 0 ∧ wz = w3 ∧ v = .slice av (lackN wd its ss k).length cv) ∨ (m = 1 ∧ o' = lackN wd its ss (k + 1) ∧ wz.ownsRow (w.heap.size + 2) 9 1 v o'.length (o'.map Value.string) ∧ wz.ownsMap Tryz.prog 9 unitE (w.heap.size + 1) nn' D' ∧ nn' ≤ k + 1 ∧ SetIs D' (fun y => y ∈ o') ∧ Below (w.heap.size + 1) (w.alloc (.cells #[.int .i64 n, .slice al ll cl, .int .i64 wd, .slice (some ⟨g, 0, none⟩) ss.length cp] 82)) wz ∧ w.heap.size + 2 ≤ wz.heap.size))) (fun _ i' _ => 1 - (intOf i').toNat)
      case atStart => exact ⟨0, 0, D, [], rfl, .inl ⟨rfl, rfl, rfl⟩⟩
      case round =>
        obtain ⟨m, nn', D', o', rfl, ⟨rfl, rfl, rfl⟩ | ⟨rfl, rfl, hown', hmap', hnn', hset', hbl', hsz'⟩⟩ := hrel
        · have hmm := HM3.out
          cases hin : inB (lackN wd its ss k) x with
          | true =>
            have hhas : Maps.has D (.string x.data.toList) = true := (HST.out.has x).2 ((inB_iff _ _).1 hin)
            have HE : Hid (lackN wd its ss k = lackN wd its ss (k + 1)) := (HSUC.out.trans (addL_told hin)).symm
            clear hin
            go_wp2_with (at_lookup; refine wpList_look_unit _ rfl _ _ rfl (w.heap.size + 1) nn D (by go_simp) hmm x (by unfold maxLen; omega) (by go_simp) true hhas ?_)
            exact ⟨⟨1, nn, D, _, by go_num, .inr ⟨rfl, HE.out, HR3.out.alloc _, HM3.out.alloc _, by omega, HST.out, HD3.out.alloc (by omega) _, by simp; omega⟩⟩, by simp [intOf]⟩
          | false =>
            have hhas : Maps.has D (.string x.data.toList) = false := by
              cases hh : Maps.has D (.string x.data.toList) with
              | false => rfl
              | true => rw [(inB_iff _ _).2 ((HST.out.has x).1 hh)] at hin; cases hin
            have HE : Hid (lackN wd its ss k ++ [x] = lackN wd its ss (k + 1)) := (HSUC.out.trans (addL_new HAB.out hin)).symm
            have HS2 : Hid (SetIs (D.put (.string x.data.toList) (.agg [])) (fun y => y ∈ lackN wd its ss k ++ [x])) := HST.out.put x (fun y => by rw [List.mem_append, List.mem_singleton]; exact Or.comm) _
            have ma := hmm.alloc (.cells #[] 203)
            clear hin
            go_wp2_with (first | (at_lookup; refine wpList_look_unit _ rfl _ _ rfl (w.heap.size + 1) nn D (by go_simp) hmm x (by unfold maxLen; omega) (by go_simp) false hhas ?_) | (at_mapUpdate; refine wpList_mapUpdate_own _ rfl _ _ _ 202 rfl 9 203 keyed9 Tryz.underlying202 unitE (w.heap.size + 1) nn D rfl ma (by unfold maxLen; omega) _ _ _ rfl rfl (key9 x (by unfold maxLen; omega)) (.agg []) [] unitE_mk ?_; intro w4 hown4 hgrow4; have hr4 := row_kept (HR3.out.alloc (.cells #[] 203)) hgrow4 (by omega); have hs4 := hgrow4.size; rw [World.size_alloc] at hs4; have hb4 := (HD3.out.alloc (by omega) (.cells #[] 203)).grown hgrow4 (by simp; omega) (fun g e => by cases e; exact Nat.le_refl _)) | (at_builtin; refine wpList_append_own _ rfl _ _ 23 rfl (w.heap.size + 2) 9 i0 (.string ⟨#[]⟩) 1 16 Tryz.underlying23 hi0 hz0 hz1 hz2 rfl (by decide) _ _ _ rfl (hr4.alloc _) ⟨_, 0, none⟩ 1 1 [.string x] rfl rfl (cell_one_new _ _ _) (by simp [Value.oneCell']) (by unfold maxLen; omega) (by omega) (by simp; omega) ?_; intro v' w6 hown' hgrow _; obtain ⟨a6, c6, rfl, _⟩ := row_form hown'))
            have hm6 := (hown4.alloc (.cells #[.string x] 9)).kept hgrow (fun e => by have := (hr4.lt _ e.symm).1; omega)
            have hb6 := (hb4.alloc (by omega) (.cells #[.string x] 9)).grown hgrow (by simp; omega) (fun g e => by have := (hr4.lt g e).1; omega)
            have hs6 := hgrow.size
            rw [World.size_alloc] at hs6
            exact ⟨⟨1, nn + 1, _, lackN wd its ss k ++ [x], by go_num, .inr ⟨rfl, HE.out, by simpa using hown', hm6, by omega, HS2.out, hb6, by omega⟩⟩, by simp [intOf]⟩
        · have HO := hid hown'
          have HMm := hid hmap'
          have HSm := hid hset'
          have HBm := hid hbl'
          obtain ⟨a7, c7, rfl, _⟩ := row_form hown'
          clear hown' hmap' hset' hbl'
          go_wp2
          exact ⟨⟨k + 1, nn', D', by omega, by go_num, HO.out, HMm.out, by omega, HSm.out, HBm.out, hsz'⟩, by simp [intOf]; omega⟩
set_option maxRecDepth 100000 in
set_option maxHeartbeats 4000000 in
theorem implLacks_any (wd room : Int) (vi vp : Value) (its : Itms) (ts out : List ByteArray) (name : ByteArray) (w : World) (hi : RdI w vi its) (hp : Reads w vp ts) (hli : its.length ≤ 1048576) (hlp : ts.length ≤ 1048576) (hsi : ∀ i, (itx its i).size ≤ 1048576) (hsp : ∀ i, (tv ts i).size ≤ 1048576) (hns : name.size ≤ 1048576) (hout : LacksV wd room its ts name out) (hE : Errs w) :
    Calls Tryz.prog 11 #[.agg #[.int .i64 wd, .int .i64 room, vi, vp], .string name] w fun e w' => ∃ v, e = .returned v ∧ w'.ownsRow (w.heap.size + 1) 9 1 v out.length (out.map Value.string) ∧ Below w.heap.size w w' := by
  obtain ⟨ai, ci, rfl, _⟩ := id hi
  obtain ⟨ap, cp, rfl, _⟩ := hp.form
  have hA := (Below.refl w.heap.size w).alloc (Nat.le_refl _) (.cells #[.int .i64 wd, .int .i64 room, .slice ai its.length ci, .slice ap ts.length cp] 31)
  have HO := hid (openStore_any wd room (.slice ai its.length ci) (.slice ap ts.length cp) its ts _ (hi.below hA) (hp.below hA) hli hlp hsi hsp)
  have HN0 := hid (Blk.new w 31 #[.int .i64 wd, .int .i64 room, .slice ai its.length ci, .slice ap ts.length cp])
  have HA := hid hA
  have HE := hid hE
  have HSI := hid hsi
  have HOUT := hid hout
  clear hi hp hA hsi hsp hout hE
  go_enter Tryz.func11, Tryz.ntmps11
  go_wp2_with fail
  refine HO.out.mono ?_
  rintro e w1 (⟨hn, rfl, hb1⟩ | ⟨hv, sb, mb, vc, rfl, hsh, hb1⟩)
  · have HB := hid (HA.out.trans (hb1.mono (by simp)))
    have ho : out = [] := by
      rcases HOUT.out with ⟨_, h⟩ | ⟨⟨h, _⟩, _⟩
      · exact h
      · exact absurd h hn
    subst ho
    clear hn hb1
    go_wp2
    go_ret
    exact ⟨_, rfl, World.ownsRow_nil _ _ _ _, HB.out⟩
  have B1 := HA.out.trans (hb1.mono (by simp))
  have N1 := HN0.out.below hb1
  have c0 : w1.cell? ⟨w.heap.size, 0, none⟩ = some (.int .i64 wd) := N1.cell 0
  have hs1 := hb1.size
  rw [World.size_alloc] at hs1
  by_cases hsz : (name.size : Int) = wd
  case neg =>
    have ho : out = [] := by
      rcases HOUT.out with ⟨_, h⟩ | ⟨⟨_, h⟩, _⟩
      · exact h
      · exact absurd h hsz
    subst ho
    have HB := hid B1
    clear hsh hb1 B1 N1 hv
    go_wp2
    go_ret
    exact ⟨_, rfl, World.ownsRow_nil _ _ _ _, HB.out⟩
  have hlu : LackU wd its name out := by
    rcases HOUT.out with ⟨h, _⟩ | ⟨_, h⟩
    · exact absurd ⟨hv, hsz⟩ h
    · exact h
  have hasc := sums_asc hv.each
  have HUN := hid (under_any sb mb vc wd room _ its name w1 hsh.box hsh.map hasc hns HSI.out (HE.out.below B1))
  have HB1 := hid B1
  have HU := hid fun o (h : LackU wd its name o) => hlu.uniq hasc h
  have HSZ : Hid (out.length ≤ 1048576 ∧ ∀ i, (tv out i).size ≤ 1048576) := by
    obtain ⟨h1, h2⟩ := hlu.few
    refine ⟨by omega, fun i => ?_⟩
    by_cases hi : i < out.length
    · have hm : tv out i ∈ out := by unfold tv; rw [List.getD_eq_getElem?_getD, List.getElem?_eq_getElem hi]; exact List.getElem_mem hi
      rcases h2 _ hm with e | ⟨e, hw⟩
      · rw [e]; exact hns
      · have : 1 ≤ wd ∧ wd ≤ 8 := of_decide_eq_true hw
        omega
    · unfold tv
      rw [List.getD_eq_getElem?_getD, List.getElem?_eq_none (by omega)]
      show (0 : Nat) ≤ 1048576
      omega
  clear hv hsh hb1 B1 N1 hlu hasc
  go_wp2_with fail
  refine HUN.out.mono ?_
  rintro e w2 (⟨n, ss, t, b, rfl, hul, hpc, hb2⟩ | ⟨n, ss, vs, vl, vq, B, rfl, hul, hrd, hrow, hpo, hb2⟩)
  · have HB2 := hid (HB1.out.trans (hb2.mono HB1.out.size))
    obtain rfl : out = [name] := HU.out _ (.inl ⟨n, ss, hul, rfl⟩)
    have HAT := hid (asThing_one name t b w2)
    have hin := fun W => lackOne (.agg #[.string name, .string ⟨#[]⟩, .bool false]) W
    have hs2 := hb2.size
    clear hul hpc hb2 c0
    go_wp2_with fail
    refine HAT.out.mono ?_
    rintro e w3 ⟨rfl, hb3⟩
    have HB3 := hid (HB2.out.trans (hb3.mono HB2.out.size))
    have HON := hid (oneLacked_any name ⟨#[]⟩ false w3)
    have hs3 := hb3.size
    clear hb3
    go_wp2_with fail
    refine HON.out.mono ?_
    rintro e w4 ⟨⟨h, _⟩ | ⟨_, g, rfl, hrow4⟩, hb4⟩
    · cases h
    have HB4 := hid (HB3.out.trans (hb4.mono HB3.out.size))
    have HCL := hid (cloneTexts_any _ [name] w4 (Reads.of_row hrow4) HSZ.out.1 HSZ.out.2)
    have hs4 := hb4.size
    clear hb4 hrow4 hin
    go_wp2_with fail
    refine HCL.out.mono ?_
    rintro e w5 ⟨v5, rfl, ho5, hb5⟩
    have HB5 := hid (HB4.out.trans (hb5.mono HB4.out.size))
    have HO5 := hid ho5
    clear ho5 hb5
    go_wp2
    go_ret
    exact ⟨_, rfl, row_lower HO5.out (by omega), HB5.out⟩
  · have HB2 := hid (HB1.out.trans (hb2.mono HB1.out.size))
    obtain ⟨hfew, _, hssz⟩ := hul.few
    obtain rfl : out = lackN wd its ss ss.length := HU.out _ (.inr ⟨n, ss, hul, rfl⟩)
    have hss : ∀ i, (tv ss i).size ≤ 1048576 := fun i => by
      by_cases hi : i < ss.length
      · have hm : tv ss i ∈ ss := by unfold tv; rw [List.getD_eq_getElem?_getD, List.getElem?_eq_getElem hi]; exact List.getElem_mem hi
        obtain ⟨e, hw⟩ := hssz _ hm
        have : 1 ≤ wd ∧ wd ≤ 8 := of_decide_eq_true hw
        omega
      · unfold tv
        rw [List.getD_eq_getElem?_getD, List.getElem?_eq_none (by omega)]
        show (0 : Nat) ≤ 1048576
        omega
    have HAT := hid (asThing_whole (.agg #[.int .i64 n, vl, .int .i64 wd, vq]) w2)
    have hin := fun W => lackWhole (.agg #[.int .i64 n, vl, .int .i64 wd, vq]) W
    obtain ⟨al, cl, hvl, _⟩ := hrd.form
    have HWB := hid fun (W : World) (h2 : W.ownsRow B 47 1 vq ss.length vs) => wholeLacked_any wd its n vl vq ss vs B W ⟨_, _, _, hvl⟩ h2 hpo hfew hss
    have HRW := hid hrow
    have hs2 := hb2.size
    clear hul hrd hrow hpo hb2 hss hssz hvl c0
    go_wp2_with fail
    refine HAT.out.mono ?_
    rintro e w3 ⟨rfl, hb3⟩
    have HB3 := hid (HB2.out.trans (hb3.mono HB2.out.size))
    have HON := hid (HWB.out w3 (part_below HRW.out hb3))
    have hs3 := hb3.size
    clear hb3
    go_wp2_with fail
    refine HON.out.mono ?_
    rintro e w4 ⟨v4, rfl, ho4, hb4⟩
    have HB4 := hid (HB3.out.trans (hb4.mono HB3.out.size))
    have HCL := hid (cloneTexts_any _ _ w4 (Reads.of_row ho4) HSZ.out.1 HSZ.out.2)
    have hs4 := hb4.size
    clear hb4 ho4 hin
    go_wp2_with fail
    refine HCL.out.mono ?_
    rintro e w5 ⟨v5, rfl, ho5, hb5⟩
    have HB5 := hid (HB4.out.trans (hb5.mono HB4.out.size))
    have HO5 := hid ho5
    clear ho5 hb5
    go_wp2
    go_ret
    exact ⟨_, rfl, row_lower HO5.out (by omega), HB5.out⟩
end Go.Proofs.YtiidodobadamgaaGreatDoor
