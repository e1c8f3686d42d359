/- impl.openWorld: the scene that it opens. -/
import Derived.Test.YtlnkhbnbcmllaaaGreatWorldParts
import Derived.Test.YtlnkhbnbcmllaaaGreatOpenFetch
import Derived.Test.YtlnkhbnbcmllaaaGreatMapPeers
import Derived.Test.YtlnkhbnbcmllaaaGreatStoresMark
namespace Go.Proofs.YtlnkhbnbcmllaaaGreat
open Go.RowKit
theorem Tryz.infoShelfQ : (Tryz.prog.info? 93).map (fun i => (i.zero, i.size, i.bytes)) = some (some (.pointer none), 1, 8) := by kernel_rfl
/-- Shelves: where each one lies. -/
abbrev Shs := List (Nat × Nat × Value)
def sh0 : Nat × Nat × Value := (0, 0, .slice none 0 0)
def shp (t : Nat × Nat × Value) : Value := .pointer (some ⟨t.1, 0, none⟩)
def ShOk (W : World) (t : Nat × Nat × Value) (p : Sr) : Prop := ShelfAt W 0 t.1 t.2.1 t.2.2 p.wd p.room p.its p.ts p.its.length
def ShAll (W : World) (sh : Shs) (ss : Srs) : Prop := ∀ j, j < sh.length → ShOk W (sh.getD j sh0) (sat ss j)
theorem ShAll.empty (W : World) (ss : Srs) : ShAll W [] ss := fun j h => absurd h (by simp)
theorem ShAll.below {W W' : World} {sh : Shs} {ss : Srs} (h : ShAll W sh ss) (hb : Below W.heap.size W W') : ShAll W' sh ss := fun j hj => ShelfAt.below (h j hj) hb
theorem shelf_off {W W' : World} {B sb mb b : Nat} {vc : Value} {wd room : Int} {its : Itms} {ts : List ByteArray} {k : Nat} {T : TypeId} {cs : Array Value} (h : ShelfAt W B sb mb vc wd room its ts k) (hg : W.grownBy W' (some b)) (hb : W.heap[b]? = some (.cells cs T (0, 0))) (h1 : 109 ≠ T) (h2 : 9 ≠ T) : ShelfAt W' B sb mb vc wd room its ts k := by
  refine h.far hg (fun e => ?_) (fun e => ?_) (fun e => ?_)
  · have h3 := h.box
    rw [← e] at h3
    have := h3.symm.trans hb
    cases this
    exact h1 rfl
  · obtain ⟨es, clock, hm, _⟩ := h.map
    rw [← e, hb] at hm
    cases hm
  · rcases h.row with ⟨_, ⟨e0, _⟩ | ⟨g, cap, cur, e0, _, hgg, _⟩⟩
    · rw [e0] at e; simp [Value.ownBlock] at e
    · rw [e0] at e
      obtain rfl : g = b := Option.some.inj e
      rw [hb] at hgg
      cases hgg
      exact h2 rfl
theorem ShAll.off {W W' : World} {sh : Shs} {ss : Srs} {b : Nat} {T : TypeId} {cs : Array Value} (h : ShAll W sh ss) (hg : W.grownBy W' (some b)) (hb : Blk W b T cs) (h1 : 109 ≠ T) (h2 : 9 ≠ T) : ShAll W' sh ss := fun j hj => shelf_off (h j hj) hg hb h1 h2
theorem ShAll.offRow {W W' : World} {sh : Shs} {ss : Srs} {B s n : Nat} {e : TypeId} {v : Value} {xs : List Value} (h : ShAll W sh ss) (k : W.ownsRow B e s v n xs) (hg : W.grownBy W' v.ownBlock) (h1 : 109 ≠ e) (h2 : 9 ≠ e) : ShAll W' sh ss := by
  rcases k with ⟨_, ⟨e0, _⟩ | ⟨g, cap, cur, e0, _, hgg, _⟩⟩
  · rw [e0] at hg
    exact h.below ⟨hg.os, hg.tape, hg.output, hg.size, fun b hb => hg.block b hb (by simp [Value.ownBlock])⟩
  · rw [e0] at hg
    exact fun j hj => shelf_off (h j hj) hg hgg h1 h2
theorem ShAll.snoc {W : World} {sh : Shs} {ss : Srs} {t : Nat × Nat × Value} {k : Nat} (h : ShAll W sh ss) (hk : sh.length = k) (ht : ShOk W t (sat ss k)) : ShAll W (sh ++ [t]) ss := fun j hj => by
  by_cases e : j < sh.length
  · have := h j e
    rw [List.getD_eq_getElem?_getD] at this ⊢
    rw [List.getElem?_append_left e]
    exact this
  · obtain rfl : j = sh.length := by simp at hj; omega
    rw [List.getD_eq_getElem?_getD, List.getElem?_append_right (Nat.le_refl _), Nat.sub_self]
    simp only [List.getElem?_cons_zero, Option.getD_some]
    rw [hk]
    exact ht
/-- A scene as far as it is read. -/
def SceneRd (W : World) (cb : Nat) (x : Wd) : Prop := ∃ hb pm sb mb vc tot qs pbs vu vst am cm sh B, Blk W cb 104 #[.pointer (some ⟨hb, 0, none⟩), vu, vst, .slice am x.ms.length cm, .int .i64 x.wst] ∧ HuntRd W hb pm sb mb vc x.nm x.now x.full x.wd x.room tot x.its x.ts qs pbs (.slice none 0 0) false ∧ qs.map Prod.fst = x.ps ∧ RdB W vu x.bs ∧ W.ownsRow B 93 1 vst x.ss.length (sh.map shp) ∧ sh.length = x.ss.length ∧ ShAll W sh x.ss
def SRes (x : Wd) (w : World) (e : Ending) (w' : World) : Prop := (¬ ValidW x ∧ (∃ p, e = .returned (.tuple #[p, .bool false])) ∧ Below w.heap.size w w') ∨ (ValidW x ∧ ∃ cb, e = .returned (.tuple #[.pointer (some ⟨cb, 0, none⟩), .bool true]) ∧ SceneRd w' cb x ∧ Below w.heap.size w w')
theorem SRes.no {x : Wd} {w w' : World} {p : Value} (h : ¬ ValidW x) (hb : Below w.heap.size w w') : SRes x w (.returned (.tuple #[p, .bool false])) w' := .inl ⟨h, ⟨p, rfl⟩, hb⟩
theorem SRes.yes {x : Wd} {w w' : World} {cb : Nat} (h : ValidW x) (hs : SceneRd w' cb x) (hb : Below w.heap.size w w') : SRes x w (.returned (.tuple #[.pointer (some ⟨cb, 0, none⟩), .bool true])) w' := .inr ⟨h, cb, rfl, hs, hb⟩
theorem rdb_of {w : World} {B : Nat} {v : Value} {bs : List Bool} (h : w.ownsRow B 4 1 v bs.length (bs.map Value.bool)) : RdB w v bs := by
  have hr := h
  rcases h with ⟨_, ⟨rfl, h0⟩ | ⟨g, cap, cur, rfl, hb, hg, _⟩⟩
  · have : bs = [] := List.eq_nil_of_length_eq_zero h0
    subst this
    exact ⟨_, 0, rfl, fun i hi => absurd hi (by simp)⟩
  · refine ⟨_, cap, rfl, fun i hi => ⟨g, 0, rfl, (Array.getElem?_eq_some_iff.1 hg).1, ?_⟩⟩
    rw [Nat.zero_add, hr.cellAt i (by omega)]
    simp [hi]
theorem ptr_lies (w : World) (a : Value) (t : TypeId) : ∀ j u, [a][j]? = some u → (w.alloc (.cells #[a] t)).cell? ((⟨w.heap.size, 0, none⟩ : Addr).add j) = some u := by
  intro j u hj
  have e : (⟨w.heap.size, 0, none⟩ : Addr).add j = ⟨w.heap.size, j, none⟩ := by simp [Addr.add]; intro h; exact h.symm
  rw [e, World.cell?_alloc_new]
  simpa using hj
set_option maxRecDepth 100000 in
set_option maxHeartbeats 16000000 in
theorem openScene_any (x : Wd) (vi vp vq vu vs vm : Value) (w : World) (h : RdW w vi vp vq vu vs vm x) (hf : WFits 1048576 x) :
    Calls Tryz.prog 25 #[wval x.nm x.now x.full x.wd x.room vi vp vq vu vs vm x.wst] w fun e w' => SRes x w e w' := by
  obtain ⟨nm, now, full, wd, room, its, ts, ps, bs, ss, ms, wst⟩ := x
  obtain ⟨hi, hp, hq, hu, hs, hm⟩ := h
  obtain ⟨q0, q1, q2, q3, q4, q5, q6, q7, q8, q9, q10, q11⟩ := hf
  dsimp only at *
  obtain ⟨ai, ci, rfl, _⟩ := id hi
  obtain ⟨ap, cp, rfl, _⟩ := hp.form
  obtain ⟨aq, cq, rfl, _⟩ := id hq
  obtain ⟨au, cu, rfl, _⟩ := id hu
  obtain ⟨ax, cx, rfl, _⟩ := id hs
  obtain ⟨am, cm, rfl, _⟩ := id hm
  obtain ⟨i0, hi0, hz0, hz1, hz2⟩ := info_parts Tryz.infoShelfQ
  have hA := (Below.refl w.heap.size w).alloc (Nat.le_refl _) (.cells #[.string nm, .int .i64 now, .bool full, .int .i64 wd, .int .i64 room, .slice ai its.length ci, .slice ap ts.length cp, .slice aq ps.length cq, .slice au bs.length cu, .slice ax ss.length cx, .slice am ms.length cm, .int .i64 wst] 42)
  have HFE := hid (openFetch_any nm now full wd room _ _ _ its ts ps _ (hi.below hA) (hp.below hA) (hq.below hA) q1 q3 q5 q2 q4 q6)
  have HN := hid (Blk.new w 42 #[.string nm, .int .i64 now, .bool full, .int .i64 wd, .int .i64 room, .slice ai its.length ci, .slice ap ts.length cp, .slice aq ps.length cq, .slice au bs.length cu, .slice ax ss.length cx, .slice am ms.length cm, .int .i64 wst])
  have HRU := hid (hu.below hA)
  have HRS := hid (hs.below hA)
  have HRM := hid (hm.below hA)
  have HQ9 := hid q9
  have HIF := hid fun W k => isFlight_any (.slice am ms.length cm) ms ps.length W k q10 q11
  have HCB := hid fun W k => cloneBools_any (.slice au bs.length cu) bs W k q7
  have HCM := hid fun W k => cloneMsgs_any (.slice am ms.length cm) ms W k q10
  have HA := hid hA
  clear hi hp hq hu hs hm hA q0 q1 q2 q3 q4 q6 q9 q11
  have hec1 := enters_of Tryz.func53 (by kernel_rfl) rfl
  have hec2 := enters_of Tryz.func54 (by kernel_rfl) rfl
  have hec3 := enters_of Tryz.func55 (by kernel_rfl) rfl
  go_enter Tryz.func25, Tryz.ntmps25
  go_wp2_with fail
  refine HFE.out.mono ?_
  rintro e w1 (⟨hn, rfl, hb1⟩ | ⟨hv, C1, C2, hb, pm, sb, mb, vc, qs, pbs, rfl, hqs, hh, hb1⟩)
  · have N1 := HN.out.below hb1
    have HB1 := hid (HA.out.trans (hb1.mono (by simp)))
    have HNO : Hid (¬ ValidW ⟨nm, now, full, wd, room, its, ts, ps, bs, ss, ms, wst⟩) := fun h => hn h.fetch
    have hS0 : w1.drew.cell? ⟨w.heap.size, 8, none⟩ = some (.slice au bs.length cu) ∧ w1.drew.cell? ⟨w.heap.size, 9, none⟩ = some (.slice ax ss.length cx) ∧ w1.drew.cell? ⟨w.heap.size, 11, none⟩ = some (.int .i64 wst) := ⟨N1.cell 8, N1.cell 9, N1.cell 11⟩
    clear hn hb1 N1
    go_wp2_with fail
    refine wp_region_held (S := fun w' => w'.cell? ⟨w.heap.size, 8, none⟩ = some (.slice au bs.length cu) ∧ w'.cell? ⟨w.heap.size, 9, none⟩ = some (.slice ax ss.length cx) ∧ w'.cell? ⟨w.heap.size, 11, none⟩ = some (.int .i64 wst)) (by kernel_rfl) ?_
    change wpAnyH _ _ _ _ _ _ _ _ (World.drew _)
    refine wpAnyH_take (i := 0) (v := .bool false) rfl (by kernel_rfl) (by kernel_rfl) (by kernel_rfl) (fun _ _ _ h => h) (.inl ⟨rfl, fun w' hS => by obtain ⟨s1, s2, s3⟩ := hS; go_simp⟩) hS0 ?_
    refine wpAnyH_take (i := 1) (v := .bool true) rfl (by kernel_rfl) (by kernel_rfl) (by kernel_rfl) (fun _ _ _ h => h) (.inl ⟨rfl, fun w' hS => by obtain ⟨s1, s2, s3⟩ := hS; go_simp⟩) hS0 ?_
    refine wpAnyH_take (i := 2) (v := .bool true) rfl (by kernel_rfl) (by kernel_rfl) (by kernel_rfl) (fun _ _ _ h => h) (.inl ⟨rfl, fun w' hS => by obtain ⟨s1, s2, s3⟩ := hS; go_simp⟩) hS0 ?_
    refine wpAnyH_take (i := 3) (v := undef) rfl (by kernel_rfl) (by kernel_rfl) (by kernel_rfl) (fun _ _ _ h => h) (.inr ⟨by first | (go_simp; done) | (go_simp; simp [undef]), rfl⟩) hS0 ?_
    refine wpAnyH_take (i := 4) (v := undef) rfl (by kernel_rfl) (by kernel_rfl) (by kernel_rfl) (fun _ _ _ h => h) (.inr ⟨by first | (go_simp; done) | (go_simp; simp [undef]), rfl⟩) hS0 ?_
    refine wpAnyH_take (i := 5) (v := undef) rfl (by kernel_rfl) (by kernel_rfl) (by kernel_rfl) (fun _ _ _ h => h) (.inr ⟨by first | (go_simp; done) | (go_simp; simp [undef]), rfl⟩) hS0 ?_
    refine wpAnyH_take (i := 6) (v := undef) rfl (by kernel_rfl) (by kernel_rfl) (by kernel_rfl) (fun _ _ _ h => h) (.inr ⟨by first | (go_simp; done) | (go_simp; simp [undef]), rfl⟩) hS0 ?_
    refine wpAnyH_take (i := 7) (v := undef) rfl (by kernel_rfl) (by kernel_rfl) (by kernel_rfl) (fun _ _ _ h => h) (.inr ⟨by first | (go_simp; done) | (go_simp; simp [undef]), rfl⟩) hS0 ?_
    refine wpAnyH_take (i := 8) (v := undef) rfl (by kernel_rfl) (by kernel_rfl) (by kernel_rfl) (fun _ _ _ h => h) (.inr ⟨by first | (go_simp; done) | (go_simp; simp [undef]), rfl⟩) hS0 ?_
    refine wpAnyH_take (i := 9) (v := undef) rfl (by kernel_rfl) (by kernel_rfl) (by kernel_rfl) (fun _ _ _ h => h) (.inr ⟨by first | (go_simp; done) | (go_simp; simp [undef]), rfl⟩) hS0 ?_
    refine wpAnyH_take (i := 10) (v := undef) rfl (by kernel_rfl) (by kernel_rfl) (by kernel_rfl) (fun _ _ _ h => h) (.inr ⟨by first | (go_simp; done) | (go_simp; simp [undef]), rfl⟩) hS0 ?_
    refine wpAnyH_take (i := 11) (v := undef) rfl (by kernel_rfl) (by kernel_rfl) (by kernel_rfl) (fun _ _ _ h => h) (.inr ⟨by first | (go_simp; done) | (go_simp; simp [undef]), rfl⟩) hS0 ?_
    refine wpAnyH_take (i := 12) (v := .bool true) rfl (by kernel_rfl) (by kernel_rfl) (by kernel_rfl) (fun _ _ _ h => h) (.inl ⟨rfl, fun w' hS => by obtain ⟨s1, s2, s3⟩ := hS; go_simp⟩) hS0 ?_
    refine wpAnyH_take (i := 13) (v := .bool true) rfl (by kernel_rfl) (by kernel_rfl) (by kernel_rfl) (fun _ _ _ h => h) (.inl ⟨rfl, fun w' hS => by obtain ⟨s1, s2, s3⟩ := hS; go_simp⟩) hS0 ?_
    refine wpAnyH_take (i := 14) (v := undef) rfl (by kernel_rfl) (by kernel_rfl) (by kernel_rfl) (fun _ _ _ h => h) (.inr ⟨by first | (go_simp; done) | (go_simp; simp [undef]), rfl⟩) hS0 ?_
    refine wpAnyH_take (i := 15) (v := undef) rfl (by kernel_rfl) (by kernel_rfl) (by kernel_rfl) (fun _ _ _ h => h) (.inr ⟨by first | (go_simp; done) | (go_simp; simp [undef]), rfl⟩) hS0 ?_
    refine wpAnyH_take (i := 16) (v := undef) rfl (by kernel_rfl) (by kernel_rfl) (by kernel_rfl) (fun _ _ _ h => h) (.inr ⟨by first | (go_simp; done) | (go_simp; simp [undef]), rfl⟩) hS0 ?_
    refine wpAnyH_take (i := 17) (v := undef) rfl (by kernel_rfl) (by kernel_rfl) (by kernel_rfl) (fun _ _ _ h => h) (.inr ⟨by first | (go_simp; done) | (go_simp; simp [undef]), rfl⟩) hS0 ?_
    refine wpAnyH_take (i := 18) (v := undef) rfl (by kernel_rfl) (by kernel_rfl) (by kernel_rfl) (fun _ _ _ h => h) (.inr ⟨by first | (go_simp; done) | (go_simp; simp [undef]), rfl⟩) hS0 ?_
    refine wpAnyH_take (i := 19) (v := undef) rfl (by kernel_rfl) (by kernel_rfl) (by kernel_rfl) (fun _ _ _ h => h) (.inr ⟨by first | (go_simp; done) | (go_simp; simp [undef]), rfl⟩) hS0 ?_
    refine wpAnyH_take (i := 20) (v := undef) rfl (by kernel_rfl) (by kernel_rfl) (by kernel_rfl) (fun _ _ _ h => h) (.inr ⟨by first | (go_simp; done) | (go_simp; simp [undef]), rfl⟩) hS0 ?_
    refine wpAnyH_take (i := 21) (v := undef) rfl (by kernel_rfl) (by kernel_rfl) (by kernel_rfl) (fun _ _ _ h => h) (.inr ⟨by first | (go_simp; done) | (go_simp; simp [undef]), rfl⟩) hS0 ?_
    refine wpAnyH_take (i := 22) (v := undef) rfl (by kernel_rfl) (by kernel_rfl) (by kernel_rfl) (fun _ _ _ h => h) (.inr ⟨by first | (go_simp; done) | (go_simp; simp [undef]), rfl⟩) hS0 ?_
    refine wpAnyH_take (i := 23) (v := .bool true) rfl (by kernel_rfl) (by kernel_rfl) (by kernel_rfl) (fun _ _ _ h => h) (.inl ⟨rfl, fun w' hS => by obtain ⟨s1, s2, s3⟩ := hS; go_simp⟩) hS0 ?_
    refine wpAnyH_take (i := 24) (v := .bool true) rfl (by kernel_rfl) (by kernel_rfl) (by kernel_rfl) (fun _ _ _ h => h) (.inl ⟨rfl, fun w' hS => by obtain ⟨s1, s2, s3⟩ := hS; go_simp⟩) hS0 ?_
    refine wpAnyH_take (i := 25) (v := undef) rfl (by kernel_rfl) (by kernel_rfl) (by kernel_rfl) (fun _ _ _ h => h) (.inr ⟨by first | (go_simp; done) | (go_simp; simp [undef]), rfl⟩) hS0 ?_
    refine wpAnyH_take (i := 26) (v := undef) rfl (by kernel_rfl) (by kernel_rfl) (by kernel_rfl) (fun _ _ _ h => h) (.inr ⟨by first | (go_simp; done) | (go_simp; simp [undef]), rfl⟩) hS0 ?_
    refine wpAnyH_take (i := 27) (v := undef) rfl (by kernel_rfl) (by kernel_rfl) (by kernel_rfl) (fun _ _ _ h => h) (.inr ⟨by first | (go_simp; done) | (go_simp; simp [undef]), rfl⟩) hS0 ?_
    refine wpAnyH_take (i := 28) (v := .bool true) rfl (by kernel_rfl) (by kernel_rfl) (by kernel_rfl) (fun _ _ _ h => h) (.inl ⟨rfl, fun w' hS => by obtain ⟨s1, s2, s3⟩ := hS; go_simp⟩) hS0 ?_
    refine wpAnyH_done (by kernel_rfl) ?_ _
    clear hS0
    go_simp
    go_wp2
    go_ret2
    exact SRes.no HNO.out (below_drewN HB1.out 1)
  have N1 := HN.out.below hb1
  have HB1 := hid (HA.out.trans (hb1.mono (by simp)))
  have hs1 := hb1.size
  rw [World.size_alloc] at hs1
  have HRU1 := hid (HRU.out.below hb1)
  have HRS1 := hid (HRS.out.below hb1)
  have HRM1 := hid (HRM.out.below hb1)
  have HFV := hid hv
  have HN1 := hid N1
  have HHB := hid hh.box
  have HHR := hid hh.rd
  have HQQ := hid hqs
  have HSB := hid hh.shelf.box
  have hql : qs.length = ps.length := by rw [← hqs, List.length_map]
  have hlen : ∀ W, PeersAt W C2 pm qs pbs → (Builtin.len_ #[94] 3 #[.map (some pm)]).run Tryz.prog W = .ok (.int .i64 (ps.length : Int)) W := fun W h => by have := len_peers h 3; rw [hql] at this; exact this
  have HPA := hid hh.peers
  have HLN := hid hlen
  have hS0 : w1.drew.cell? ⟨w.heap.size, 8, none⟩ = some (.slice au bs.length cu) ∧ w1.drew.cell? ⟨w.heap.size, 9, none⟩ = some (.slice ax ss.length cx) ∧ w1.drew.cell? ⟨w.heap.size, 11, none⟩ = some (.int .i64 wst) ∧ w1.drew.cell? ⟨hb, 4, none⟩ = some (.map (some pm)) ∧ (Builtin.len_ #[94] 3 #[.map (some pm)]).run Tryz.prog w1.drew = .ok (.int .i64 (ps.length : Int)) w1.drew := ⟨N1.cell 8, N1.cell 9, N1.cell 11, hh.box.cell 4, hlen _ (hh.peers.below (below_drewN (Below.refl _ _) 1))⟩
  have hhl := hh.box.lt
  have hsl := hh.shelf.box.lt
  clear hb1 N1 hh hv hqs hlen hql
  by_cases hu : bs.length = ps.length
  case neg =>
    have HNO : Hid (¬ ValidW ⟨nm, now, full, wd, room, its, ts, ps, bs, ss, ms, wst⟩) := fun h => hu h.up
    have hu' : ¬ (((bs.length : Nat) : Int) = ((ps.length : Nat) : Int)) := by omega
    clear hu
    go_wp2_with fail
    refine wp_region_held (S := fun w' => w'.cell? ⟨w.heap.size, 8, none⟩ = some (.slice au bs.length cu) ∧ w'.cell? ⟨w.heap.size, 9, none⟩ = some (.slice ax ss.length cx) ∧ w'.cell? ⟨w.heap.size, 11, none⟩ = some (.int .i64 wst) ∧ w'.cell? ⟨hb, 4, none⟩ = some (.map (some pm)) ∧ (Builtin.len_ #[94] 3 #[.map (some pm)]).run Tryz.prog w' = .ok (.int .i64 (ps.length : Int)) w') (by kernel_rfl) ?_
    change wpAnyH _ _ _ _ _ _ _ _ (World.drew _)
    refine wpAnyH_take (i := 0) (v := .bool true) rfl (by kernel_rfl) (by kernel_rfl) (by kernel_rfl) (fun _ _ _ h => h) (.inl ⟨rfl, fun w' hS => by obtain ⟨s1, s2, s3, s4, s5⟩ := hS; go_simp⟩) hS0 ?_
    refine wpAnyH_take (i := 1) (v := .bool false) rfl (by kernel_rfl) (by kernel_rfl) (by kernel_rfl) (fun _ _ _ h => h) (.inl ⟨rfl, fun w' hS => by obtain ⟨s1, s2, s3, s4, s5⟩ := hS; go_simp⟩) hS0 ?_
    refine wpAnyH_take (i := 2) (v := .bool false) rfl (by kernel_rfl) (by kernel_rfl) (by kernel_rfl) (fun _ _ _ h => h) (.inl ⟨rfl, fun w' hS => by obtain ⟨s1, s2, s3, s4, s5⟩ := hS; go_simp⟩) hS0 ?_
    refine wpAnyH_take (i := 3) (v := .pointer (some ⟨w.heap.size, 8, none⟩)) rfl (by kernel_rfl) (by kernel_rfl) (by kernel_rfl) (fun _ _ _ h => h) (.inl ⟨by go_simp, fun w' hS => by obtain ⟨s1, s2, s3, s4, s5⟩ := hS; go_simp⟩) hS0 ?_
    refine wpAnyH_take (i := 4) (v := .slice au bs.length cu) rfl (by kernel_rfl) (by kernel_rfl) (by kernel_rfl) (fun _ _ _ h => h) (.inl ⟨by go_simp, fun w' hS => by obtain ⟨s1, s2, s3, s4, s5⟩ := hS; go_simp⟩) hS0 ?_
    refine wpAnyH_take (i := 5) (v := .int .i64 (bs.length : Nat)) rfl (by kernel_rfl) (by kernel_rfl) (by kernel_rfl) (fun _ _ _ h => h) (.inl ⟨by go_simp, fun w' hS => by obtain ⟨s1, s2, s3, s4, s5⟩ := hS; go_simp⟩) hS0 ?_
    refine wpAnyH_take (i := 6) (v := .pointer (some ⟨hb, 0, none⟩)) rfl (by kernel_rfl) (by kernel_rfl) (by kernel_rfl) (fun _ _ _ h => h) (.inl ⟨by go_simp, fun w' hS => by obtain ⟨s1, s2, s3, s4, s5⟩ := hS; go_simp⟩) hS0 ?_
    refine wpAnyH_take (i := 7) (v := .pointer (some ⟨hb, 0, none⟩)) rfl (by kernel_rfl) (by kernel_rfl) (by kernel_rfl) (fun _ _ _ h => h) (.inl ⟨by go_simp, fun w' hS => by obtain ⟨s1, s2, s3, s4, s5⟩ := hS; go_simp⟩) hS0 ?_
    refine wpAnyH_take (i := 8) (v := .pointer (some ⟨hb, 4, none⟩)) rfl (by kernel_rfl) (by kernel_rfl) (by kernel_rfl) (fun _ _ _ h => h) (.inl ⟨by go_simp, fun w' hS => by obtain ⟨s1, s2, s3, s4, s5⟩ := hS; go_simp⟩) hS0 ?_
    refine wpAnyH_take (i := 9) (v := .map (some pm)) rfl (by kernel_rfl) (by kernel_rfl) (by kernel_rfl) (fun _ _ _ h => h) (.inl ⟨by go_simp, fun w' hS => by obtain ⟨s1, s2, s3, s4, s5⟩ := hS; go_simp⟩) hS0 ?_
    refine wpAnyH_take (i := 10) (v := .int .i64 (ps.length : Nat)) rfl (by kernel_rfl) (by kernel_rfl) (by kernel_rfl) (fun _ _ _ h => h) (.inl ⟨by go_simp, fun w' hS => by obtain ⟨s1, s2, s3, s4, s5⟩ := hS; first | (go_simp; done) | (simp [execOp, resolve, invoke, builtin, Result.andThen, s5]; done) | (go_simp; simp [s5])⟩) hS0 ?_
    refine wpAnyH_take (i := 11) (v := .bool true) rfl (by kernel_rfl) (by kernel_rfl) (by kernel_rfl) (fun _ _ _ h => h) (.inl ⟨by go_simp, fun w' hS => by obtain ⟨s1, s2, s3, s4, s5⟩ := hS; go_simp⟩) hS0 ?_
    refine wpAnyH_take (i := 12) (v := .bool true) rfl (by kernel_rfl) (by kernel_rfl) (by kernel_rfl) (fun _ _ _ h => h) (.inl ⟨rfl, fun w' hS => by obtain ⟨s1, s2, s3, s4, s5⟩ := hS; go_simp⟩) hS0 ?_
    refine wpAnyH_take (i := 13) (v := .bool true) rfl (by kernel_rfl) (by kernel_rfl) (by kernel_rfl) (fun _ _ _ h => h) (.inl ⟨rfl, fun w' hS => by obtain ⟨s1, s2, s3, s4, s5⟩ := hS; go_simp⟩) hS0 ?_
    refine wpAnyH_take (i := 14) (v := undef) rfl (by kernel_rfl) (by kernel_rfl) (by kernel_rfl) (fun _ _ _ h => h) (.inr ⟨by first | (go_simp; done) | (go_simp; simp [undef]), rfl⟩) hS0 ?_
    refine wpAnyH_take (i := 15) (v := undef) rfl (by kernel_rfl) (by kernel_rfl) (by kernel_rfl) (fun _ _ _ h => h) (.inr ⟨by first | (go_simp; done) | (go_simp; simp [undef]), rfl⟩) hS0 ?_
    refine wpAnyH_take (i := 16) (v := undef) rfl (by kernel_rfl) (by kernel_rfl) (by kernel_rfl) (fun _ _ _ h => h) (.inr ⟨by first | (go_simp; done) | (go_simp; simp [undef]), rfl⟩) hS0 ?_
    refine wpAnyH_take (i := 17) (v := undef) rfl (by kernel_rfl) (by kernel_rfl) (by kernel_rfl) (fun _ _ _ h => h) (.inr ⟨by first | (go_simp; done) | (go_simp; simp [undef]), rfl⟩) hS0 ?_
    refine wpAnyH_take (i := 18) (v := undef) rfl (by kernel_rfl) (by kernel_rfl) (by kernel_rfl) (fun _ _ _ h => h) (.inr ⟨by first | (go_simp; done) | (go_simp; simp [undef]), rfl⟩) hS0 ?_
    refine wpAnyH_take (i := 19) (v := undef) rfl (by kernel_rfl) (by kernel_rfl) (by kernel_rfl) (fun _ _ _ h => h) (.inr ⟨by first | (go_simp; done) | (go_simp; simp [undef]), rfl⟩) hS0 ?_
    refine wpAnyH_take (i := 20) (v := undef) rfl (by kernel_rfl) (by kernel_rfl) (by kernel_rfl) (fun _ _ _ h => h) (.inr ⟨by first | (go_simp; done) | (go_simp; simp [undef]), rfl⟩) hS0 ?_
    refine wpAnyH_take (i := 21) (v := undef) rfl (by kernel_rfl) (by kernel_rfl) (by kernel_rfl) (fun _ _ _ h => h) (.inr ⟨by first | (go_simp; done) | (go_simp; simp [undef]), rfl⟩) hS0 ?_
    refine wpAnyH_take (i := 22) (v := undef) rfl (by kernel_rfl) (by kernel_rfl) (by kernel_rfl) (fun _ _ _ h => h) (.inr ⟨by first | (go_simp; done) | (go_simp; simp [undef]), rfl⟩) hS0 ?_
    refine wpAnyH_take (i := 23) (v := .bool true) rfl (by kernel_rfl) (by kernel_rfl) (by kernel_rfl) (fun _ _ _ h => h) (.inl ⟨rfl, fun w' hS => by obtain ⟨s1, s2, s3, s4, s5⟩ := hS; go_simp⟩) hS0 ?_
    refine wpAnyH_take (i := 24) (v := .bool true) rfl (by kernel_rfl) (by kernel_rfl) (by kernel_rfl) (fun _ _ _ h => h) (.inl ⟨rfl, fun w' hS => by obtain ⟨s1, s2, s3, s4, s5⟩ := hS; go_simp⟩) hS0 ?_
    refine wpAnyH_take (i := 25) (v := undef) rfl (by kernel_rfl) (by kernel_rfl) (by kernel_rfl) (fun _ _ _ h => h) (.inr ⟨by first | (go_simp; done) | (go_simp; simp [undef]), rfl⟩) hS0 ?_
    refine wpAnyH_take (i := 26) (v := undef) rfl (by kernel_rfl) (by kernel_rfl) (by kernel_rfl) (fun _ _ _ h => h) (.inr ⟨by first | (go_simp; done) | (go_simp; simp [undef]), rfl⟩) hS0 ?_
    refine wpAnyH_take (i := 27) (v := undef) rfl (by kernel_rfl) (by kernel_rfl) (by kernel_rfl) (fun _ _ _ h => h) (.inr ⟨by first | (go_simp; done) | (go_simp; simp [undef]), rfl⟩) hS0 ?_
    refine wpAnyH_take (i := 28) (v := .bool true) rfl (by kernel_rfl) (by kernel_rfl) (by kernel_rfl) (fun _ _ _ h => h) (.inl ⟨rfl, fun w' hS => by obtain ⟨s1, s2, s3, s4, s5⟩ := hS; go_simp⟩) hS0 ?_
    refine wpAnyH_done (by kernel_rfl) ?_ _
    clear hS0
    go_simp
    go_wp2
    go_ret2
    exact SRes.no HNO.out (below_drewN HB1.out 1)
  by_cases hsl2 : ss.length = ps.length
  case neg =>
    have HNO : Hid (¬ ValidW ⟨nm, now, full, wd, room, its, ts, ps, bs, ss, ms, wst⟩) := fun h => hsl2 h.many
    have hu' : ((bs.length : Nat) : Int) = ((ps.length : Nat) : Int) := by omega
    have hs' : ¬ (((ss.length : Nat) : Int) = ((ps.length : Nat) : Int)) := by omega
    clear hu hsl2
    go_wp2_with fail
    refine wp_region_held (S := fun w' => w'.cell? ⟨w.heap.size, 8, none⟩ = some (.slice au bs.length cu) ∧ w'.cell? ⟨w.heap.size, 9, none⟩ = some (.slice ax ss.length cx) ∧ w'.cell? ⟨w.heap.size, 11, none⟩ = some (.int .i64 wst) ∧ w'.cell? ⟨hb, 4, none⟩ = some (.map (some pm)) ∧ (Builtin.len_ #[94] 3 #[.map (some pm)]).run Tryz.prog w' = .ok (.int .i64 (ps.length : Int)) w') (by kernel_rfl) ?_
    change wpAnyH _ _ _ _ _ _ _ _ (World.drew _)
    refine wpAnyH_take (i := 0) (v := .bool true) rfl (by kernel_rfl) (by kernel_rfl) (by kernel_rfl) (fun _ _ _ h => h) (.inl ⟨rfl, fun w' hS => by obtain ⟨s1, s2, s3, s4, s5⟩ := hS; go_simp⟩) hS0 ?_
    refine wpAnyH_take (i := 1) (v := .bool false) rfl (by kernel_rfl) (by kernel_rfl) (by kernel_rfl) (fun _ _ _ h => h) (.inl ⟨rfl, fun w' hS => by obtain ⟨s1, s2, s3, s4, s5⟩ := hS; go_simp⟩) hS0 ?_
    refine wpAnyH_take (i := 2) (v := .bool false) rfl (by kernel_rfl) (by kernel_rfl) (by kernel_rfl) (fun _ _ _ h => h) (.inl ⟨rfl, fun w' hS => by obtain ⟨s1, s2, s3, s4, s5⟩ := hS; go_simp⟩) hS0 ?_
    refine wpAnyH_take (i := 3) (v := .pointer (some ⟨w.heap.size, 8, none⟩)) rfl (by kernel_rfl) (by kernel_rfl) (by kernel_rfl) (fun _ _ _ h => h) (.inl ⟨by go_simp, fun w' hS => by obtain ⟨s1, s2, s3, s4, s5⟩ := hS; go_simp⟩) hS0 ?_
    refine wpAnyH_take (i := 4) (v := .slice au bs.length cu) rfl (by kernel_rfl) (by kernel_rfl) (by kernel_rfl) (fun _ _ _ h => h) (.inl ⟨by go_simp, fun w' hS => by obtain ⟨s1, s2, s3, s4, s5⟩ := hS; go_simp⟩) hS0 ?_
    refine wpAnyH_take (i := 5) (v := .int .i64 (bs.length : Nat)) rfl (by kernel_rfl) (by kernel_rfl) (by kernel_rfl) (fun _ _ _ h => h) (.inl ⟨by go_simp, fun w' hS => by obtain ⟨s1, s2, s3, s4, s5⟩ := hS; go_simp⟩) hS0 ?_
    refine wpAnyH_take (i := 6) (v := .pointer (some ⟨hb, 0, none⟩)) rfl (by kernel_rfl) (by kernel_rfl) (by kernel_rfl) (fun _ _ _ h => h) (.inl ⟨by go_simp, fun w' hS => by obtain ⟨s1, s2, s3, s4, s5⟩ := hS; go_simp⟩) hS0 ?_
    refine wpAnyH_take (i := 7) (v := .pointer (some ⟨hb, 0, none⟩)) rfl (by kernel_rfl) (by kernel_rfl) (by kernel_rfl) (fun _ _ _ h => h) (.inl ⟨by go_simp, fun w' hS => by obtain ⟨s1, s2, s3, s4, s5⟩ := hS; go_simp⟩) hS0 ?_
    refine wpAnyH_take (i := 8) (v := .pointer (some ⟨hb, 4, none⟩)) rfl (by kernel_rfl) (by kernel_rfl) (by kernel_rfl) (fun _ _ _ h => h) (.inl ⟨by go_simp, fun w' hS => by obtain ⟨s1, s2, s3, s4, s5⟩ := hS; go_simp⟩) hS0 ?_
    refine wpAnyH_take (i := 9) (v := .map (some pm)) rfl (by kernel_rfl) (by kernel_rfl) (by kernel_rfl) (fun _ _ _ h => h) (.inl ⟨by go_simp, fun w' hS => by obtain ⟨s1, s2, s3, s4, s5⟩ := hS; go_simp⟩) hS0 ?_
    refine wpAnyH_take (i := 10) (v := .int .i64 (ps.length : Nat)) rfl (by kernel_rfl) (by kernel_rfl) (by kernel_rfl) (fun _ _ _ h => h) (.inl ⟨by go_simp, fun w' hS => by obtain ⟨s1, s2, s3, s4, s5⟩ := hS; first | (go_simp; done) | (simp [execOp, resolve, invoke, builtin, Result.andThen, s5]; done) | (go_simp; simp [s5])⟩) hS0 ?_
    refine wpAnyH_take (i := 11) (v := .bool false) rfl (by kernel_rfl) (by kernel_rfl) (by kernel_rfl) (fun _ _ _ h => h) (.inl ⟨by go_simp, fun w' hS => by obtain ⟨s1, s2, s3, s4, s5⟩ := hS; go_simp⟩) hS0 ?_
    refine wpAnyH_take (i := 12) (v := .bool false) rfl (by kernel_rfl) (by kernel_rfl) (by kernel_rfl) (fun _ _ _ h => h) (.inl ⟨rfl, fun w' hS => by obtain ⟨s1, s2, s3, s4, s5⟩ := hS; go_simp⟩) hS0 ?_
    refine wpAnyH_take (i := 13) (v := .bool false) rfl (by kernel_rfl) (by kernel_rfl) (by kernel_rfl) (fun _ _ _ h => h) (.inl ⟨rfl, fun w' hS => by obtain ⟨s1, s2, s3, s4, s5⟩ := hS; go_simp⟩) hS0 ?_
    refine wpAnyH_take (i := 14) (v := .pointer (some ⟨w.heap.size, 9, none⟩)) rfl (by kernel_rfl) (by kernel_rfl) (by kernel_rfl) (fun _ _ _ h => h) (.inl ⟨by go_simp, fun w' hS => by obtain ⟨s1, s2, s3, s4, s5⟩ := hS; go_simp⟩) hS0 ?_
    refine wpAnyH_take (i := 15) (v := .slice ax ss.length cx) rfl (by kernel_rfl) (by kernel_rfl) (by kernel_rfl) (fun _ _ _ h => h) (.inl ⟨by go_simp, fun w' hS => by obtain ⟨s1, s2, s3, s4, s5⟩ := hS; go_simp⟩) hS0 ?_
    refine wpAnyH_take (i := 16) (v := .int .i64 (ss.length : Nat)) rfl (by kernel_rfl) (by kernel_rfl) (by kernel_rfl) (fun _ _ _ h => h) (.inl ⟨by go_simp, fun w' hS => by obtain ⟨s1, s2, s3, s4, s5⟩ := hS; go_simp⟩) hS0 ?_
    refine wpAnyH_take (i := 17) (v := .pointer (some ⟨hb, 0, none⟩)) rfl (by kernel_rfl) (by kernel_rfl) (by kernel_rfl) (fun _ _ _ h => h) (.inl ⟨by go_simp, fun w' hS => by obtain ⟨s1, s2, s3, s4, s5⟩ := hS; go_simp⟩) hS0 ?_
    refine wpAnyH_take (i := 18) (v := .pointer (some ⟨hb, 0, none⟩)) rfl (by kernel_rfl) (by kernel_rfl) (by kernel_rfl) (fun _ _ _ h => h) (.inl ⟨by go_simp, fun w' hS => by obtain ⟨s1, s2, s3, s4, s5⟩ := hS; go_simp⟩) hS0 ?_
    refine wpAnyH_take (i := 19) (v := .pointer (some ⟨hb, 4, none⟩)) rfl (by kernel_rfl) (by kernel_rfl) (by kernel_rfl) (fun _ _ _ h => h) (.inl ⟨by go_simp, fun w' hS => by obtain ⟨s1, s2, s3, s4, s5⟩ := hS; go_simp⟩) hS0 ?_
    refine wpAnyH_take (i := 20) (v := .map (some pm)) rfl (by kernel_rfl) (by kernel_rfl) (by kernel_rfl) (fun _ _ _ h => h) (.inl ⟨by go_simp, fun w' hS => by obtain ⟨s1, s2, s3, s4, s5⟩ := hS; go_simp⟩) hS0 ?_
    refine wpAnyH_take (i := 21) (v := .int .i64 (ps.length : Nat)) rfl (by kernel_rfl) (by kernel_rfl) (by kernel_rfl) (fun _ _ _ h => h) (.inl ⟨by go_simp, fun w' hS => by obtain ⟨s1, s2, s3, s4, s5⟩ := hS; first | (go_simp; done) | (simp [execOp, resolve, invoke, builtin, Result.andThen, s5]; done) | (go_simp; simp [s5])⟩) hS0 ?_
    refine wpAnyH_take (i := 22) (v := .bool true) rfl (by kernel_rfl) (by kernel_rfl) (by kernel_rfl) (fun _ _ _ h => h) (.inl ⟨by go_simp, fun w' hS => by obtain ⟨s1, s2, s3, s4, s5⟩ := hS; go_simp⟩) hS0 ?_
    refine wpAnyH_take (i := 23) (v := .bool true) rfl (by kernel_rfl) (by kernel_rfl) (by kernel_rfl) (fun _ _ _ h => h) (.inl ⟨rfl, fun w' hS => by obtain ⟨s1, s2, s3, s4, s5⟩ := hS; go_simp⟩) hS0 ?_
    refine wpAnyH_take (i := 24) (v := .bool true) rfl (by kernel_rfl) (by kernel_rfl) (by kernel_rfl) (fun _ _ _ h => h) (.inl ⟨rfl, fun w' hS => by obtain ⟨s1, s2, s3, s4, s5⟩ := hS; go_simp⟩) hS0 ?_
    refine wpAnyH_take (i := 25) (v := undef) rfl (by kernel_rfl) (by kernel_rfl) (by kernel_rfl) (fun _ _ _ h => h) (.inr ⟨by first | (go_simp; done) | (go_simp; simp [undef]), rfl⟩) hS0 ?_
    refine wpAnyH_take (i := 26) (v := undef) rfl (by kernel_rfl) (by kernel_rfl) (by kernel_rfl) (fun _ _ _ h => h) (.inr ⟨by first | (go_simp; done) | (go_simp; simp [undef]), rfl⟩) hS0 ?_
    refine wpAnyH_take (i := 27) (v := undef) rfl (by kernel_rfl) (by kernel_rfl) (by kernel_rfl) (fun _ _ _ h => h) (.inr ⟨by first | (go_simp; done) | (go_simp; simp [undef]), rfl⟩) hS0 ?_
    refine wpAnyH_take (i := 28) (v := .bool true) rfl (by kernel_rfl) (by kernel_rfl) (by kernel_rfl) (fun _ _ _ h => h) (.inl ⟨rfl, fun w' hS => by obtain ⟨s1, s2, s3, s4, s5⟩ := hS; go_simp⟩) hS0 ?_
    refine wpAnyH_done (by kernel_rfl) ?_ _
    clear hS0
    go_simp
    go_wp2
    go_ret2
    exact SRes.no HNO.out (below_drewN HB1.out 1)
  by_cases hw : 0 ≤ wst
  case neg =>
    have HNO : Hid (¬ ValidW ⟨nm, now, full, wd, room, its, ts, ps, bs, ss, ms, wst⟩) := fun h => hw h.wst
    have hu' : ((bs.length : Nat) : Int) = ((ps.length : Nat) : Int) := by omega
    have hs' : ((ss.length : Nat) : Int) = ((ps.length : Nat) : Int) := by omega
    have hw' : wst < 0 := by omega
    clear hu hsl2 hw
    go_wp2_with fail
    refine wp_region_held (S := fun w' => w'.cell? ⟨w.heap.size, 8, none⟩ = some (.slice au bs.length cu) ∧ w'.cell? ⟨w.heap.size, 9, none⟩ = some (.slice ax ss.length cx) ∧ w'.cell? ⟨w.heap.size, 11, none⟩ = some (.int .i64 wst) ∧ w'.cell? ⟨hb, 4, none⟩ = some (.map (some pm)) ∧ (Builtin.len_ #[94] 3 #[.map (some pm)]).run Tryz.prog w' = .ok (.int .i64 (ps.length : Int)) w') (by kernel_rfl) ?_
    change wpAnyH _ _ _ _ _ _ _ _ (World.drew _)
    refine wpAnyH_take (i := 0) (v := .bool true) rfl (by kernel_rfl) (by kernel_rfl) (by kernel_rfl) (fun _ _ _ h => h) (.inl ⟨rfl, fun w' hS => by obtain ⟨s1, s2, s3, s4, s5⟩ := hS; go_simp⟩) hS0 ?_
    refine wpAnyH_take (i := 1) (v := .bool false) rfl (by kernel_rfl) (by kernel_rfl) (by kernel_rfl) (fun _ _ _ h => h) (.inl ⟨rfl, fun w' hS => by obtain ⟨s1, s2, s3, s4, s5⟩ := hS; go_simp⟩) hS0 ?_
    refine wpAnyH_take (i := 2) (v := .bool false) rfl (by kernel_rfl) (by kernel_rfl) (by kernel_rfl) (fun _ _ _ h => h) (.inl ⟨rfl, fun w' hS => by obtain ⟨s1, s2, s3, s4, s5⟩ := hS; go_simp⟩) hS0 ?_
    refine wpAnyH_take (i := 3) (v := .pointer (some ⟨w.heap.size, 8, none⟩)) rfl (by kernel_rfl) (by kernel_rfl) (by kernel_rfl) (fun _ _ _ h => h) (.inl ⟨by go_simp, fun w' hS => by obtain ⟨s1, s2, s3, s4, s5⟩ := hS; go_simp⟩) hS0 ?_
    refine wpAnyH_take (i := 4) (v := .slice au bs.length cu) rfl (by kernel_rfl) (by kernel_rfl) (by kernel_rfl) (fun _ _ _ h => h) (.inl ⟨by go_simp, fun w' hS => by obtain ⟨s1, s2, s3, s4, s5⟩ := hS; go_simp⟩) hS0 ?_
    refine wpAnyH_take (i := 5) (v := .int .i64 (bs.length : Nat)) rfl (by kernel_rfl) (by kernel_rfl) (by kernel_rfl) (fun _ _ _ h => h) (.inl ⟨by go_simp, fun w' hS => by obtain ⟨s1, s2, s3, s4, s5⟩ := hS; go_simp⟩) hS0 ?_
    refine wpAnyH_take (i := 6) (v := .pointer (some ⟨hb, 0, none⟩)) rfl (by kernel_rfl) (by kernel_rfl) (by kernel_rfl) (fun _ _ _ h => h) (.inl ⟨by go_simp, fun w' hS => by obtain ⟨s1, s2, s3, s4, s5⟩ := hS; go_simp⟩) hS0 ?_
    refine wpAnyH_take (i := 7) (v := .pointer (some ⟨hb, 0, none⟩)) rfl (by kernel_rfl) (by kernel_rfl) (by kernel_rfl) (fun _ _ _ h => h) (.inl ⟨by go_simp, fun w' hS => by obtain ⟨s1, s2, s3, s4, s5⟩ := hS; go_simp⟩) hS0 ?_
    refine wpAnyH_take (i := 8) (v := .pointer (some ⟨hb, 4, none⟩)) rfl (by kernel_rfl) (by kernel_rfl) (by kernel_rfl) (fun _ _ _ h => h) (.inl ⟨by go_simp, fun w' hS => by obtain ⟨s1, s2, s3, s4, s5⟩ := hS; go_simp⟩) hS0 ?_
    refine wpAnyH_take (i := 9) (v := .map (some pm)) rfl (by kernel_rfl) (by kernel_rfl) (by kernel_rfl) (fun _ _ _ h => h) (.inl ⟨by go_simp, fun w' hS => by obtain ⟨s1, s2, s3, s4, s5⟩ := hS; go_simp⟩) hS0 ?_
    refine wpAnyH_take (i := 10) (v := .int .i64 (ps.length : Nat)) rfl (by kernel_rfl) (by kernel_rfl) (by kernel_rfl) (fun _ _ _ h => h) (.inl ⟨by go_simp, fun w' hS => by obtain ⟨s1, s2, s3, s4, s5⟩ := hS; first | (go_simp; done) | (simp [execOp, resolve, invoke, builtin, Result.andThen, s5]; done) | (go_simp; simp [s5])⟩) hS0 ?_
    refine wpAnyH_take (i := 11) (v := .bool false) rfl (by kernel_rfl) (by kernel_rfl) (by kernel_rfl) (fun _ _ _ h => h) (.inl ⟨by go_simp, fun w' hS => by obtain ⟨s1, s2, s3, s4, s5⟩ := hS; go_simp⟩) hS0 ?_
    refine wpAnyH_take (i := 12) (v := .bool false) rfl (by kernel_rfl) (by kernel_rfl) (by kernel_rfl) (fun _ _ _ h => h) (.inl ⟨rfl, fun w' hS => by obtain ⟨s1, s2, s3, s4, s5⟩ := hS; go_simp⟩) hS0 ?_
    refine wpAnyH_take (i := 13) (v := .bool false) rfl (by kernel_rfl) (by kernel_rfl) (by kernel_rfl) (fun _ _ _ h => h) (.inl ⟨rfl, fun w' hS => by obtain ⟨s1, s2, s3, s4, s5⟩ := hS; go_simp⟩) hS0 ?_
    refine wpAnyH_take (i := 14) (v := .pointer (some ⟨w.heap.size, 9, none⟩)) rfl (by kernel_rfl) (by kernel_rfl) (by kernel_rfl) (fun _ _ _ h => h) (.inl ⟨by go_simp, fun w' hS => by obtain ⟨s1, s2, s3, s4, s5⟩ := hS; go_simp⟩) hS0 ?_
    refine wpAnyH_take (i := 15) (v := .slice ax ss.length cx) rfl (by kernel_rfl) (by kernel_rfl) (by kernel_rfl) (fun _ _ _ h => h) (.inl ⟨by go_simp, fun w' hS => by obtain ⟨s1, s2, s3, s4, s5⟩ := hS; go_simp⟩) hS0 ?_
    refine wpAnyH_take (i := 16) (v := .int .i64 (ss.length : Nat)) rfl (by kernel_rfl) (by kernel_rfl) (by kernel_rfl) (fun _ _ _ h => h) (.inl ⟨by go_simp, fun w' hS => by obtain ⟨s1, s2, s3, s4, s5⟩ := hS; go_simp⟩) hS0 ?_
    refine wpAnyH_take (i := 17) (v := .pointer (some ⟨hb, 0, none⟩)) rfl (by kernel_rfl) (by kernel_rfl) (by kernel_rfl) (fun _ _ _ h => h) (.inl ⟨by go_simp, fun w' hS => by obtain ⟨s1, s2, s3, s4, s5⟩ := hS; go_simp⟩) hS0 ?_
    refine wpAnyH_take (i := 18) (v := .pointer (some ⟨hb, 0, none⟩)) rfl (by kernel_rfl) (by kernel_rfl) (by kernel_rfl) (fun _ _ _ h => h) (.inl ⟨by go_simp, fun w' hS => by obtain ⟨s1, s2, s3, s4, s5⟩ := hS; go_simp⟩) hS0 ?_
    refine wpAnyH_take (i := 19) (v := .pointer (some ⟨hb, 4, none⟩)) rfl (by kernel_rfl) (by kernel_rfl) (by kernel_rfl) (fun _ _ _ h => h) (.inl ⟨by go_simp, fun w' hS => by obtain ⟨s1, s2, s3, s4, s5⟩ := hS; go_simp⟩) hS0 ?_
    refine wpAnyH_take (i := 20) (v := .map (some pm)) rfl (by kernel_rfl) (by kernel_rfl) (by kernel_rfl) (fun _ _ _ h => h) (.inl ⟨by go_simp, fun w' hS => by obtain ⟨s1, s2, s3, s4, s5⟩ := hS; go_simp⟩) hS0 ?_
    refine wpAnyH_take (i := 21) (v := .int .i64 (ps.length : Nat)) rfl (by kernel_rfl) (by kernel_rfl) (by kernel_rfl) (fun _ _ _ h => h) (.inl ⟨by go_simp, fun w' hS => by obtain ⟨s1, s2, s3, s4, s5⟩ := hS; first | (go_simp; done) | (simp [execOp, resolve, invoke, builtin, Result.andThen, s5]; done) | (go_simp; simp [s5])⟩) hS0 ?_
    refine wpAnyH_take (i := 22) (v := .bool false) rfl (by kernel_rfl) (by kernel_rfl) (by kernel_rfl) (fun _ _ _ h => h) (.inl ⟨by go_simp, fun w' hS => by obtain ⟨s1, s2, s3, s4, s5⟩ := hS; go_simp⟩) hS0 ?_
    refine wpAnyH_take (i := 23) (v := .bool false) rfl (by kernel_rfl) (by kernel_rfl) (by kernel_rfl) (fun _ _ _ h => h) (.inl ⟨rfl, fun w' hS => by obtain ⟨s1, s2, s3, s4, s5⟩ := hS; go_simp⟩) hS0 ?_
    refine wpAnyH_take (i := 24) (v := .bool false) rfl (by kernel_rfl) (by kernel_rfl) (by kernel_rfl) (fun _ _ _ h => h) (.inl ⟨rfl, fun w' hS => by obtain ⟨s1, s2, s3, s4, s5⟩ := hS; go_simp⟩) hS0 ?_
    refine wpAnyH_take (i := 25) (v := .pointer (some ⟨w.heap.size, 11, none⟩)) rfl (by kernel_rfl) (by kernel_rfl) (by kernel_rfl) (fun _ _ _ h => h) (.inl ⟨by go_simp, fun w' hS => by obtain ⟨s1, s2, s3, s4, s5⟩ := hS; go_simp⟩) hS0 ?_
    refine wpAnyH_take (i := 26) (v := .int .i64 wst) rfl (by kernel_rfl) (by kernel_rfl) (by kernel_rfl) (fun _ _ _ h => h) (.inl ⟨by go_simp, fun w' hS => by obtain ⟨s1, s2, s3, s4, s5⟩ := hS; go_simp⟩) hS0 ?_
    refine wpAnyH_take (i := 27) (v := .bool true) rfl (by kernel_rfl) (by kernel_rfl) (by kernel_rfl) (fun _ _ _ h => h) (.inl ⟨by go_simp, fun w' hS => by obtain ⟨s1, s2, s3, s4, s5⟩ := hS; go_simp⟩) hS0 ?_
    refine wpAnyH_take (i := 28) (v := .bool true) rfl (by kernel_rfl) (by kernel_rfl) (by kernel_rfl) (fun _ _ _ h => h) (.inl ⟨rfl, fun w' hS => by obtain ⟨s1, s2, s3, s4, s5⟩ := hS; go_simp⟩) hS0 ?_
    refine wpAnyH_done (by kernel_rfl) ?_ _
    clear hS0
    go_simp
    go_wp2
    go_ret2
    exact SRes.no HNO.out (below_drewN HB1.out 1)
  have HALL : Hid ((ms.length ≤ 300 ∧ ∀ i, i < ms.length → MgOk ps.length (mat ms i)) → (∀ i, i < ss.length → ValidSt (sat ss i).wd (sat ss i).room (sat ss i).its (sat ss i).ts ∧ (sat ss i).wd = wd) → ValidW ⟨nm, now, full, wd, room, its, ts, ps, bs, ss, ms, wst⟩) := fun a b => ⟨HFV.out, hu, hsl2, a.1, hw, b, a.2⟩
  have hu' : ((bs.length : Nat) : Int) = ((ps.length : Nat) : Int) := by omega
  have hs' : ((ss.length : Nat) : Int) = ((ps.length : Nat) : Int) := by omega
  have hw' : ¬ (wst < 0) := by omega
  clear hu hsl2 hw
  go_wp2_with fail
  refine wp_region_held (S := fun w' => w'.cell? ⟨w.heap.size, 8, none⟩ = some (.slice au bs.length cu) ∧ w'.cell? ⟨w.heap.size, 9, none⟩ = some (.slice ax ss.length cx) ∧ w'.cell? ⟨w.heap.size, 11, none⟩ = some (.int .i64 wst) ∧ w'.cell? ⟨hb, 4, none⟩ = some (.map (some pm)) ∧ (Builtin.len_ #[94] 3 #[.map (some pm)]).run Tryz.prog w' = .ok (.int .i64 (ps.length : Int)) w') (by kernel_rfl) ?_
  change wpAnyH _ _ _ _ _ _ _ _ (World.drew _)
  refine wpAnyH_take (i := 0) (v := .bool true) rfl (by kernel_rfl) (by kernel_rfl) (by kernel_rfl) (fun _ _ _ h => h) (.inl ⟨rfl, fun w' hS => by obtain ⟨s1, s2, s3, s4, s5⟩ := hS; go_simp⟩) hS0 ?_
  refine wpAnyH_take (i := 1) (v := .bool false) rfl (by kernel_rfl) (by kernel_rfl) (by kernel_rfl) (fun _ _ _ h => h) (.inl ⟨rfl, fun w' hS => by obtain ⟨s1, s2, s3, s4, s5⟩ := hS; go_simp⟩) hS0 ?_
  refine wpAnyH_take (i := 2) (v := .bool false) rfl (by kernel_rfl) (by kernel_rfl) (by kernel_rfl) (fun _ _ _ h => h) (.inl ⟨rfl, fun w' hS => by obtain ⟨s1, s2, s3, s4, s5⟩ := hS; go_simp⟩) hS0 ?_
  refine wpAnyH_take (i := 3) (v := .pointer (some ⟨w.heap.size, 8, none⟩)) rfl (by kernel_rfl) (by kernel_rfl) (by kernel_rfl) (fun _ _ _ h => h) (.inl ⟨by go_simp, fun w' hS => by obtain ⟨s1, s2, s3, s4, s5⟩ := hS; go_simp⟩) hS0 ?_
  refine wpAnyH_take (i := 4) (v := .slice au bs.length cu) rfl (by kernel_rfl) (by kernel_rfl) (by kernel_rfl) (fun _ _ _ h => h) (.inl ⟨by go_simp, fun w' hS => by obtain ⟨s1, s2, s3, s4, s5⟩ := hS; go_simp⟩) hS0 ?_
  refine wpAnyH_take (i := 5) (v := .int .i64 (bs.length : Nat)) rfl (by kernel_rfl) (by kernel_rfl) (by kernel_rfl) (fun _ _ _ h => h) (.inl ⟨by go_simp, fun w' hS => by obtain ⟨s1, s2, s3, s4, s5⟩ := hS; go_simp⟩) hS0 ?_
  refine wpAnyH_take (i := 6) (v := .pointer (some ⟨hb, 0, none⟩)) rfl (by kernel_rfl) (by kernel_rfl) (by kernel_rfl) (fun _ _ _ h => h) (.inl ⟨by go_simp, fun w' hS => by obtain ⟨s1, s2, s3, s4, s5⟩ := hS; go_simp⟩) hS0 ?_
  refine wpAnyH_take (i := 7) (v := .pointer (some ⟨hb, 0, none⟩)) rfl (by kernel_rfl) (by kernel_rfl) (by kernel_rfl) (fun _ _ _ h => h) (.inl ⟨by go_simp, fun w' hS => by obtain ⟨s1, s2, s3, s4, s5⟩ := hS; go_simp⟩) hS0 ?_
  refine wpAnyH_take (i := 8) (v := .pointer (some ⟨hb, 4, none⟩)) rfl (by kernel_rfl) (by kernel_rfl) (by kernel_rfl) (fun _ _ _ h => h) (.inl ⟨by go_simp, fun w' hS => by obtain ⟨s1, s2, s3, s4, s5⟩ := hS; go_simp⟩) hS0 ?_
  refine wpAnyH_take (i := 9) (v := .map (some pm)) rfl (by kernel_rfl) (by kernel_rfl) (by kernel_rfl) (fun _ _ _ h => h) (.inl ⟨by go_simp, fun w' hS => by obtain ⟨s1, s2, s3, s4, s5⟩ := hS; go_simp⟩) hS0 ?_
  refine wpAnyH_take (i := 10) (v := .int .i64 (ps.length : Nat)) rfl (by kernel_rfl) (by kernel_rfl) (by kernel_rfl) (fun _ _ _ h => h) (.inl ⟨by go_simp, fun w' hS => by obtain ⟨s1, s2, s3, s4, s5⟩ := hS; first | (go_simp; done) | (simp [execOp, resolve, invoke, builtin, Result.andThen, s5]; done) | (go_simp; simp [s5])⟩) hS0 ?_
  refine wpAnyH_take (i := 11) (v := .bool false) rfl (by kernel_rfl) (by kernel_rfl) (by kernel_rfl) (fun _ _ _ h => h) (.inl ⟨by go_simp, fun w' hS => by obtain ⟨s1, s2, s3, s4, s5⟩ := hS; go_simp⟩) hS0 ?_
  refine wpAnyH_take (i := 12) (v := .bool false) rfl (by kernel_rfl) (by kernel_rfl) (by kernel_rfl) (fun _ _ _ h => h) (.inl ⟨rfl, fun w' hS => by obtain ⟨s1, s2, s3, s4, s5⟩ := hS; go_simp⟩) hS0 ?_
  refine wpAnyH_take (i := 13) (v := .bool false) rfl (by kernel_rfl) (by kernel_rfl) (by kernel_rfl) (fun _ _ _ h => h) (.inl ⟨rfl, fun w' hS => by obtain ⟨s1, s2, s3, s4, s5⟩ := hS; go_simp⟩) hS0 ?_
  refine wpAnyH_take (i := 14) (v := .pointer (some ⟨w.heap.size, 9, none⟩)) rfl (by kernel_rfl) (by kernel_rfl) (by kernel_rfl) (fun _ _ _ h => h) (.inl ⟨by go_simp, fun w' hS => by obtain ⟨s1, s2, s3, s4, s5⟩ := hS; go_simp⟩) hS0 ?_
  refine wpAnyH_take (i := 15) (v := .slice ax ss.length cx) rfl (by kernel_rfl) (by kernel_rfl) (by kernel_rfl) (fun _ _ _ h => h) (.inl ⟨by go_simp, fun w' hS => by obtain ⟨s1, s2, s3, s4, s5⟩ := hS; go_simp⟩) hS0 ?_
  refine wpAnyH_take (i := 16) (v := .int .i64 (ss.length : Nat)) rfl (by kernel_rfl) (by kernel_rfl) (by kernel_rfl) (fun _ _ _ h => h) (.inl ⟨by go_simp, fun w' hS => by obtain ⟨s1, s2, s3, s4, s5⟩ := hS; go_simp⟩) hS0 ?_
  refine wpAnyH_take (i := 17) (v := .pointer (some ⟨hb, 0, none⟩)) rfl (by kernel_rfl) (by kernel_rfl) (by kernel_rfl) (fun _ _ _ h => h) (.inl ⟨by go_simp, fun w' hS => by obtain ⟨s1, s2, s3, s4, s5⟩ := hS; go_simp⟩) hS0 ?_
  refine wpAnyH_take (i := 18) (v := .pointer (some ⟨hb, 0, none⟩)) rfl (by kernel_rfl) (by kernel_rfl) (by kernel_rfl) (fun _ _ _ h => h) (.inl ⟨by go_simp, fun w' hS => by obtain ⟨s1, s2, s3, s4, s5⟩ := hS; go_simp⟩) hS0 ?_
  refine wpAnyH_take (i := 19) (v := .pointer (some ⟨hb, 4, none⟩)) rfl (by kernel_rfl) (by kernel_rfl) (by kernel_rfl) (fun _ _ _ h => h) (.inl ⟨by go_simp, fun w' hS => by obtain ⟨s1, s2, s3, s4, s5⟩ := hS; go_simp⟩) hS0 ?_
  refine wpAnyH_take (i := 20) (v := .map (some pm)) rfl (by kernel_rfl) (by kernel_rfl) (by kernel_rfl) (fun _ _ _ h => h) (.inl ⟨by go_simp, fun w' hS => by obtain ⟨s1, s2, s3, s4, s5⟩ := hS; go_simp⟩) hS0 ?_
  refine wpAnyH_take (i := 21) (v := .int .i64 (ps.length : Nat)) rfl (by kernel_rfl) (by kernel_rfl) (by kernel_rfl) (fun _ _ _ h => h) (.inl ⟨by go_simp, fun w' hS => by obtain ⟨s1, s2, s3, s4, s5⟩ := hS; first | (go_simp; done) | (simp [execOp, resolve, invoke, builtin, Result.andThen, s5]; done) | (go_simp; simp [s5])⟩) hS0 ?_
  refine wpAnyH_take (i := 22) (v := .bool false) rfl (by kernel_rfl) (by kernel_rfl) (by kernel_rfl) (fun _ _ _ h => h) (.inl ⟨by go_simp, fun w' hS => by obtain ⟨s1, s2, s3, s4, s5⟩ := hS; go_simp⟩) hS0 ?_
  refine wpAnyH_take (i := 23) (v := .bool false) rfl (by kernel_rfl) (by kernel_rfl) (by kernel_rfl) (fun _ _ _ h => h) (.inl ⟨rfl, fun w' hS => by obtain ⟨s1, s2, s3, s4, s5⟩ := hS; go_simp⟩) hS0 ?_
  refine wpAnyH_take (i := 24) (v := .bool false) rfl (by kernel_rfl) (by kernel_rfl) (by kernel_rfl) (fun _ _ _ h => h) (.inl ⟨rfl, fun w' hS => by obtain ⟨s1, s2, s3, s4, s5⟩ := hS; go_simp⟩) hS0 ?_
  refine wpAnyH_take (i := 25) (v := .pointer (some ⟨w.heap.size, 11, none⟩)) rfl (by kernel_rfl) (by kernel_rfl) (by kernel_rfl) (fun _ _ _ h => h) (.inl ⟨by go_simp, fun w' hS => by obtain ⟨s1, s2, s3, s4, s5⟩ := hS; go_simp⟩) hS0 ?_
  refine wpAnyH_take (i := 26) (v := .int .i64 wst) rfl (by kernel_rfl) (by kernel_rfl) (by kernel_rfl) (fun _ _ _ h => h) (.inl ⟨by go_simp, fun w' hS => by obtain ⟨s1, s2, s3, s4, s5⟩ := hS; go_simp⟩) hS0 ?_
  refine wpAnyH_take (i := 27) (v := .bool false) rfl (by kernel_rfl) (by kernel_rfl) (by kernel_rfl) (fun _ _ _ h => h) (.inl ⟨by go_simp, fun w' hS => by obtain ⟨s1, s2, s3, s4, s5⟩ := hS; go_simp⟩) hS0 ?_
  refine wpAnyH_take (i := 28) (v := .bool false) rfl (by kernel_rfl) (by kernel_rfl) (by kernel_rfl) (fun _ _ _ h => h) (.inl ⟨rfl, fun w' hS => by obtain ⟨s1, s2, s3, s4, s5⟩ := hS; go_simp⟩) hS0 ?_
  refine wpAnyH_done (by kernel_rfl) ?_ _
  clear hS0
  go_simp
  clear hu' hs' hw'
  have hbd : Below w1.heap.size w1 w1.drew.drew := below_drewN (Below.refl _ _) 2
  have hS0 : w1.drew.drew.cell? ⟨w.heap.size, 10, none⟩ = some (.slice am ms.length cm) ∧ w1.drew.drew.cell? ⟨hb, 4, none⟩ = some (.map (some pm)) ∧ (Builtin.len_ #[94] 3 #[.map (some pm)]).run Tryz.prog w1.drew.drew = .ok (.int .i64 (ps.length : Int)) w1.drew.drew := ⟨(HN1.out.below hbd).cell 10, (HHB.out.below hbd).cell 4, HLN.out _ (HPA.out.below hbd)⟩
  have HIF1 := hid (HIF.out _ (HRM1.out.below hbd))
  clear hbd
  go_wp2_with fail
  refine wp_region_held (S := fun w' => w'.cell? ⟨w.heap.size, 10, none⟩ = some (.slice am ms.length cm) ∧ w'.cell? ⟨hb, 4, none⟩ = some (.map (some pm)) ∧ (Builtin.len_ #[94] 3 #[.map (some pm)]).run Tryz.prog w' = .ok (.int .i64 (ps.length : Int)) w') (by kernel_rfl) ?_
  change wpAnyH _ _ _ _ _ _ _ _ (World.drew _)
  refine wpAnyH_take (i := 0) (v := .pointer (some ⟨w.heap.size, 10, none⟩)) rfl (by kernel_rfl) (by kernel_rfl) (by kernel_rfl) (fun _ _ _ h => h) (.inl ⟨rfl, fun w' hS => by obtain ⟨s1, s2, s5⟩ := hS; go_simp⟩) hS0 ?_
  refine wpAnyH_take (i := 1) (v := .slice am ms.length cm) rfl (by kernel_rfl) (by kernel_rfl) (by kernel_rfl) (fun _ _ _ h => h) (.inl ⟨rfl, fun w' hS => by obtain ⟨s1, s2, s5⟩ := hS; go_simp⟩) hS0 ?_
  refine wpAnyH_take (i := 2) (v := .pointer (some ⟨hb, 0, none⟩)) rfl (by kernel_rfl) (by kernel_rfl) (by kernel_rfl) (fun _ _ _ h => h) (.inl ⟨rfl, fun w' hS => by obtain ⟨s1, s2, s5⟩ := hS; go_simp⟩) hS0 ?_
  refine wpAnyH_take (i := 3) (v := .pointer (some ⟨hb, 0, none⟩)) rfl (by kernel_rfl) (by kernel_rfl) (by kernel_rfl) (fun _ _ _ h => h) (.inl ⟨rfl, fun w' hS => by obtain ⟨s1, s2, s5⟩ := hS; go_simp⟩) hS0 ?_
  refine wpAnyH_take (i := 4) (v := .pointer (some ⟨hb, 4, none⟩)) rfl (by kernel_rfl) (by kernel_rfl) (by kernel_rfl) (fun _ _ _ h => h) (.inl ⟨rfl, fun w' hS => by obtain ⟨s1, s2, s5⟩ := hS; go_simp⟩) hS0 ?_
  refine wpAnyH_take (i := 5) (v := .map (some pm)) rfl (by kernel_rfl) (by kernel_rfl) (by kernel_rfl) (fun _ _ _ h => h) (.inl ⟨rfl, fun w' hS => by obtain ⟨s1, s2, s5⟩ := hS; go_simp⟩) hS0 ?_
  refine wpAnyH_take (i := 6) (v := .int .i64 (ps.length : Nat)) rfl (by kernel_rfl) (by kernel_rfl) (by kernel_rfl) (fun _ _ _ h => h) (.inl ⟨rfl, fun w' hS => by obtain ⟨s1, s2, s5⟩ := hS; first | (go_simp; done) | (simp [execOp, resolve, invoke, builtin, Result.andThen, s5]; done) | (go_simp; simp [s5])⟩) hS0 ?_
  refine held_one 7 (by kernel_rfl) (op_calls (f := 53) (args := #[.slice am ms.length cm, .int .i64 (ps.length : Nat)]) rfl rfl (by go_simp) HIF1.out ?_)
  rintro e w3 ⟨b, rfl, hbf, hb3⟩
  have hb3' : Below w1.heap.size w1 w3 := ⟨hb3.os, hb3.tape, hb3.output, hb3.size, hb3.block⟩
  have hS1 : w3.cell? ⟨w.heap.size, 10, none⟩ = some (.slice am ms.length cm) ∧ w3.cell? ⟨hb, 4, none⟩ = some (.map (some pm)) ∧ (Builtin.len_ #[94] 3 #[.map (some pm)]).run Tryz.prog w3 = .ok (.int .i64 (ps.length : Int)) w3 := ⟨(HN1.out.below hb3').cell 10, (HHB.out.below hb3').cell 4, HLN.out _ (HPA.out.below hb3')⟩
  have HB3 := hid (HB1.out.trans (hb3'.mono HB1.out.size))
  have HD3 := hid hb3'
  have HN3 := hid (HN1.out.below hb3')
  have HH3 := hid (HHB.out.below hb3')
  have HS3 := hid (HSB.out.below hb3')
  have HRU3 := hid (HRU1.out.below hb3')
  have HRS3 := hid (HRS1.out.below hb3')
  have HRM3 := hid (HRM1.out.below hb3')
  have hs3 := hb3'.size
  clear hb3 hb3' hS0
  refine ⟨_, rfl, hS1, ?_⟩
  cases b with
  | false =>
    have HNO : Hid (¬ ValidW ⟨nm, now, full, wd, room, its, ts, ps, bs, ss, ms, wst⟩) := fun h => by have := hbf.2 ⟨h.few, h.flight⟩; cases this
    clear hbf
    refine wpAnyH_take (i := 8) (v := .bool true) rfl (by kernel_rfl) (by kernel_rfl) (by kernel_rfl) (fun _ _ _ h => h) (.inl ⟨rfl, fun w' hS => by obtain ⟨s1, s2, s5⟩ := hS; go_simp⟩) hS1 ?_
    refine wpAnyH_done (by kernel_rfl) ?_ _
    clear hS1
    go_simp
    go_wp2
    go_ret2
    exact SRes.no HNO.out HB3.out
  | true =>
  have HFL := hid (hbf.1 rfl)
  clear hbf
  refine wpAnyH_take (i := 8) (v := .bool false) rfl (by kernel_rfl) (by kernel_rfl) (by kernel_rfl) (fun _ _ _ h => h) (.inl ⟨rfl, fun w' hS => by obtain ⟨s1, s2, s5⟩ := hS; go_simp⟩) hS1 ?_
  refine wpAnyH_done (by kernel_rfl) ?_ _
  clear hS1
  go_simp
  have hbd : Below w3.heap.size w3 w3.drew := below_drewN (Below.refl _ _) 1
  have N3 := HN3.out.below hbd
  have hS0 : w3.drew.cell? ⟨w.heap.size, 8, none⟩ = some (.slice au bs.length cu) ∧ w3.drew.cell? ⟨w.heap.size, 10, none⟩ = some (.slice am ms.length cm) ∧ w3.drew.cell? ⟨w.heap.size, 11, none⟩ = some (.int .i64 wst) := ⟨N3.cell 8, N3.cell 10, N3.cell 11⟩
  have HCB3 := hid (HCB.out _ (HRU3.out.below hbd))
  clear N3 hbd
  go_wp2_with fail
  refine wp_region_held (S := fun w' => w'.cell? ⟨w.heap.size, 8, none⟩ = some (.slice au bs.length cu) ∧ w'.cell? ⟨w.heap.size, 10, none⟩ = some (.slice am ms.length cm) ∧ w'.cell? ⟨w.heap.size, 11, none⟩ = some (.int .i64 wst)) (by kernel_rfl) ?_
  change wpAnyH _ _ _ _ _ _ _ _ (World.drew _)
  refine wpAnyH_take (i := 0) (v := .pointer (some ⟨hb, 0, none⟩)) rfl (by kernel_rfl) (by kernel_rfl) (by kernel_rfl) (fun _ _ _ h => h) (.inl ⟨rfl, fun w' hS => by obtain ⟨s1, s2, s3⟩ := hS; go_simp⟩) hS0 ?_
  refine wpAnyH_take (i := 1) (v := .pointer (some ⟨w.heap.size, 8, none⟩)) rfl (by kernel_rfl) (by kernel_rfl) (by kernel_rfl) (fun _ _ _ h => h) (.inl ⟨rfl, fun w' hS => by obtain ⟨s1, s2, s3⟩ := hS; go_simp⟩) hS0 ?_
  refine wpAnyH_take (i := 2) (v := .slice au bs.length cu) rfl (by kernel_rfl) (by kernel_rfl) (by kernel_rfl) (fun _ _ _ h => h) (.inl ⟨rfl, fun w' hS => by obtain ⟨s1, s2, s3⟩ := hS; go_simp⟩) hS0 ?_
  refine wpAnyH_take (i := 4) (v := .pointer (some ⟨w.heap.size, 10, none⟩)) rfl (by kernel_rfl) (by kernel_rfl) (by kernel_rfl) (fun _ _ _ h => h) (.inl ⟨rfl, fun w' hS => by obtain ⟨s1, s2, s3⟩ := hS; go_simp⟩) hS0 ?_
  refine wpAnyH_take (i := 5) (v := .slice am ms.length cm) rfl (by kernel_rfl) (by kernel_rfl) (by kernel_rfl) (fun _ _ _ h => h) (.inl ⟨rfl, fun w' hS => by obtain ⟨s1, s2, s3⟩ := hS; go_simp⟩) hS0 ?_
  refine wpAnyH_take (i := 7) (v := .pointer (some ⟨w.heap.size, 11, none⟩)) rfl (by kernel_rfl) (by kernel_rfl) (by kernel_rfl) (fun _ _ _ h => h) (.inl ⟨rfl, fun w' hS => by obtain ⟨s1, s2, s3⟩ := hS; go_simp⟩) hS0 ?_
  refine wpAnyH_take (i := 8) (v := .int .i64 wst) rfl (by kernel_rfl) (by kernel_rfl) (by kernel_rfl) (fun _ _ _ h => h) (.inl ⟨rfl, fun w' hS => by obtain ⟨s1, s2, s3⟩ := hS; go_simp⟩) hS0 ?_
  refine held_one 3 (by kernel_rfl) (op_calls (f := 54) (args := #[.slice au bs.length cu]) rfl rfl (by go_simp) HCB3.out ?_)
  rintro e w4 ⟨v4, rfl, o4, hb4⟩
  have hb4' : Below w3.heap.size w3 w4 := ⟨hb4.os, hb4.tape, hb4.output, hb4.size, hb4.block⟩
  obtain ⟨a4, c4, rfl⟩ := row_any o4
  have N4 := HN3.out.below hb4'
  refine ⟨_, rfl, ⟨N4.cell 8, N4.cell 10, N4.cell 11⟩, ?_⟩
  refine held_one 6 (by kernel_rfl) (op_calls (f := 55) (args := #[.slice am ms.length cm]) rfl rfl (by go_simp) (HCM.out _ (HRM3.out.below hb4')) ?_)
  rintro e w5 ⟨v5, rfl, o5, hb5⟩
  obtain ⟨a5, c5, rfl⟩ := row_any o5
  have hb5' := hb4'.trans (hb5.mono hb4'.size)
  have N5 := HN3.out.below hb5'
  have hS5 : w5.cell? ⟨w.heap.size, 8, none⟩ = some (.slice au bs.length cu) ∧ w5.cell? ⟨w.heap.size, 10, none⟩ = some (.slice am ms.length cm) ∧ w5.cell? ⟨w.heap.size, 11, none⟩ = some (.int .i64 wst) := ⟨N5.cell 8, N5.cell 10, N5.cell 11⟩
  have N6 := N5.alloc (.cells #[.pointer (some ⟨hb, 0, none⟩), .slice a4 bs.length c4, .slice none 0 0, .slice a5 ms.length c5, .int .i64 wst] 104)
  have hS6 : (w5.alloc (.cells #[.pointer (some ⟨hb, 0, none⟩), .slice a4 bs.length c4, .slice none 0 0, .slice a5 ms.length c5, .int .i64 wst] 104)).cell? ⟨w.heap.size, 8, none⟩ = some (.slice au bs.length cu) ∧ (w5.alloc (.cells #[.pointer (some ⟨hb, 0, none⟩), .slice a4 bs.length c4, .slice none 0 0, .slice a5 ms.length c5, .int .i64 wst] 104)).cell? ⟨w.heap.size, 10, none⟩ = some (.slice am ms.length cm) ∧ (w5.alloc (.cells #[.pointer (some ⟨hb, 0, none⟩), .slice a4 bs.length c4, .slice none 0 0, .slice a5 ms.length c5, .int .i64 wst] 104)).cell? ⟨w.heap.size, 11, none⟩ = some (.int .i64 wst) := ⟨N6.cell 8, N6.cell 10, N6.cell 11⟩
  have HB5 := hid (HB3.out.trans (hb5'.mono HB3.out.size))
  have HD5 := hid (HD3.out.trans (hb5'.mono HD3.out.size))
  have HO5 := hid (Below.row hb5 o4)
  have HN5 := hid N5
  have HH5 := hid (HH3.out.below hb5')
  have HS5 := hid (HS3.out.below hb5')
  have HRS5 := hid (HRS3.out.below hb5')
  have hs5 := hb5'.size
  clear hb4 hb4' hb5 hb5' N4 N5 N6 o4 o5
  refine ⟨_, rfl, hS5, ?_⟩
  refine wpAnyH_take (i := 9) (v := .agg #[.pointer (some ⟨hb, 0, none⟩), .slice a4 bs.length c4, .slice none 0 0, .slice a5 ms.length c5, .int .i64 wst]) rfl (by kernel_rfl) (by kernel_rfl) (by kernel_rfl) (fun _ _ _ h => h) (.inl ⟨rfl, fun w' hS => by obtain ⟨s1, s2, s3⟩ := hS; go_simp⟩) hS5 ?_
  refine held_one 10 (by kernel_rfl) (op_value (v := .pointer (some ⟨w5.heap.size, 0, none⟩)) (w' := w5.alloc (.cells #[.pointer (some ⟨hb, 0, none⟩), .slice a4 bs.length c4, .slice none 0 0, .slice a5 ms.length c5, .int .i64 wst] 104)) rfl rfl (by go_simp) ⟨hS6, ?_⟩)
  refine wpAnyH_take (i := 11) (v := .pointer (some ⟨w5.heap.size, 0, none⟩)) rfl (by kernel_rfl) (by kernel_rfl) (by kernel_rfl) (fun _ _ _ h => h) (.inl ⟨rfl, fun w' hS => by obtain ⟨s1, s2, s3⟩ := hS; go_simp⟩) hS6 ?_
  refine wpAnyH_done (by kernel_rfl) ?_ _
  clear hS0 hS5 hS6
  obtain ⟨w6, hw6⟩ : ∃ w6, w6 = w5.alloc (.cells #[.pointer (some ⟨hb, 0, none⟩), .slice a4 bs.length c4, .slice none 0 0, .slice a5 ms.length c5, .int .i64 wst] 104) := ⟨_, rfl⟩
  have HG6 : Hid (∀ W, w6.grownBy W (some w5.heap.size) → Below w5.heap.size w5 W) := fun W hg => by
    rw [hw6] at hg
    exact ((Below.refl w5.heap.size w5).alloc (Nat.le_refl _) _).grown hg (by simp) (fun g e => by cases e; exact Nat.le_refl _)
  have HSC : Hid (Blk w6 w5.heap.size 104 #[.pointer (some ⟨hb, 0, none⟩), .slice a4 bs.length c4, .slice none 0 0, .slice a5 ms.length c5, .int .i64 wst]) := by show Blk w6 w5.heap.size 104 _; rw [hw6]; exact Blk.new w5 104 #[.pointer (some ⟨hb, 0, none⟩), .slice a4 bs.length c4, .slice none 0 0, .slice a5 ms.length c5, .int .i64 wst]
  have HZ6 : Hid (w6.heap.size = w5.heap.size + 1) := by show w6.heap.size = w5.heap.size + 1; rw [hw6, World.size_alloc]
  have hz6 : w5.heap.size + 1 ≤ w6.heap.size := Nat.le_of_eq HZ6.out.symm
  have y9 : w6.cell? ⟨w.heap.size, 9, none⟩ = some (.slice ax ss.length cx) := by rw [hw6]; exact (HN5.out.alloc _).cell 9
  go_simp
  rw [← hw6]
  clear hw6
  go_wp2
  clear y9
  go_loopw [69] (fun i' wr => ∃ (k : Nat) (vst : Value) (sh : Shs), k ≤ ss.length ∧ i' = .int .i64 k ∧ (∀ j, j < k → ValidSt (sat ss j).wd (sat ss j).room (sat ss j).its (sat ss j).ts ∧ (sat ss j).wd = wd) ∧ Blk wr w5.heap.size 104 #[.pointer (some ⟨hb, 0, none⟩), .slice a4 bs.length c4, vst, .slice a5 ms.length c5, .int .i64 wst] ∧ wr.ownsRow w6.heap.size 93 1 vst k (sh.map shp) ∧ w6.grownBy wr (some w5.heap.size) ∧ Hid (sh.length = k) ∧ Hid (ShAll wr sh ss)) (fun i' _ => ss.length - (intOf i').toNat)
  case atStart => exact ⟨0, _, [], Nat.zero_le _, rfl, fun j hj => absurd hj (by omega), HSC.out, World.ownsRow_nil _ _ _ _, grown_refl2 _ _, rfl, ShAll.empty _ _⟩
  case round =>
    obtain ⟨k, vst, sh, hk, rfl, hok, hbx, hrow, hg, HLN9, HSA⟩ := hrel
    have HOK := hid hok
    have hgs := hg.size
    have hBR := HG6.out wr hg
    have HBR := hid (HB5.out.trans (hBR.mono HB5.out.size))
    have HG := hid hg
    have HBX := hid hbx
    have HROW := hid hrow
    clear hok
    by_cases hlt : k < ss.length
    case neg =>
      obtain rfl : k = ss.length := by omega
      have HYES := hid (HALL.out HFL.out HOK.out)
      have HSCN : Hid (SceneRd wr w5.heap.size ⟨nm, now, full, wd, room, its, ts, ps, bs, ss, ms, wst⟩) := hid ⟨hb, pm, sb, mb, vc, _, qs, pbs, _, _, _, _, sh, _, hbx, HHR.out.below (HD5.out.trans (hBR.mono HD5.out.size)), HQQ.out, rdb_of (Below.row hBR HO5.out), hrow, HLN9.out, HSA.out⟩
      clear hbx hrow hg hBR
      go_wp2
      go_ret2
      exact SRes.yes HYES.out HSCN.out HBR.out
    obtain ⟨ax', cx', e', hc⟩ := id (HRS5.out.below hBR)
    cases e'
    obtain ⟨b0, o0, vi, vp, rfl, h4⟩ := hc k hlt
    have hfk := HQ9.out k hlt
    have HPK : Hid (ValidSt (sat ss k).wd (sat ss k).room (sat ss k).its (sat ss k).ts ∧ (sat ss k).wd = wd → ∀ j, j < k + 1 → ValidSt (sat ss j).wd (sat ss j).room (sat ss j).its (sat ss j).ts ∧ (sat ss j).wd = wd) := fun h j hj => (Nat.lt_or_eq_of_le (Nat.le_of_lt_succ hj)).elim (HOK.out j) (fun e => e ▸ h)
    have HNV : Hid (¬ (ValidSt (sat ss k).wd (sat ss k).room (sat ss k).its (sat ss k).ts ∧ (sat ss k).wd = wd) → ¬ ValidW ⟨nm, now, full, wd, room, its, ts, ps, bs, ss, ms, wst⟩) := fun h hv => h (hv.each k hlt)
    have HSNC : Hid (∀ (W : World) (t : Nat × Nat × Value), ShAll W sh ss → ShOk W t (sat ss k) → ShAll W (sh ++ [t]) ss) := fun W t h1 h2 => h1.snoc HLN9.out h2
    generalize sat ss k = p at h4 hfk HPK HNV HSNC
    obtain ⟨pw, pr, pi, pt⟩ := p
    obtain ⟨x0, x1, x2, x3, x4, x5, x6⟩ := h4
    obtain ⟨y0, y1, y2, y3⟩ := hfk
    dsimp only at x1 x2 x3 x4 x5 x6 y0 y1 y2 y3 HPK HNV
    obtain ⟨a8, c8, hvi, _⟩ := id x5
    obtain ⟨a9, c9, hvp, _⟩ := x6.form
    subst hvi hvp
    have hAR := (Below.refl wr.heap.size wr).alloc (Nat.le_refl _) (.cells #[.int .i64 pw, .int .i64 pr, .slice a8 pi.length c8, .slice a9 pt.length c9] 34)
    have HOS := hid (openStore_any pw pr _ _ pi pt _ (x5.below hAR) (x6.below hAR) y0 y2 y1 y3)
    have HAR := hid hAR
    have HDR := hid hBR
    clear hc x0 x5 x6 y0 y1 y2 y3 hAR hBR hbx hrow hg
    go_wp2_with fail
    refine HOS.out.mono ?_
    clear x1 x2 x3 x4
    rintro e w7 (⟨hn, rfl, hb7⟩ | ⟨hv, sb2, mb2, vc2, rfl, hsh, hb7⟩)
    · have hb7' := HAR.out.trans (hb7.mono (by simp))
      have D7 := HDR.out.trans (hb7'.mono HDR.out.size)
      have HB7 := hid (HBR.out.trans (hb7'.mono HBR.out.size))
      have HNO := hid (HNV.out (fun h => hn h.1))
      have hS0 : w7.drew.cell? ⟨hb, 3, none⟩ = some (.pointer (some ⟨sb, 0, none⟩)) ∧ w7.drew.cell? ⟨sb, 0, none⟩ = some (.int .i64 wd) := ⟨(HH5.out.below D7).cell 3, (HS5.out.below D7).cell 0⟩
      clear hn hb7 hb7' D7
      go_wp2_with fail
      refine wp_region_held (S := fun w' => w'.cell? ⟨hb, 3, none⟩ = some (.pointer (some ⟨sb, 0, none⟩)) ∧ w'.cell? ⟨sb, 0, none⟩ = some (.int .i64 wd)) (by kernel_rfl) ?_
      change wpAnyH _ _ _ _ _ _ _ _ (World.drew _)
      refine wpAnyH_take (i := 0) (v := .bool false) rfl (by kernel_rfl) (by kernel_rfl) (by kernel_rfl) (fun _ _ _ h => h) (.inl ⟨rfl, fun w' hS => by obtain ⟨s2, s3⟩ := hS; go_simp⟩) hS0 ?_
      refine wpAnyH_take (i := 1) (v := .bool true) rfl (by kernel_rfl) (by kernel_rfl) (by kernel_rfl) (fun _ _ _ h => h) (.inl ⟨rfl, fun w' hS => by obtain ⟨s2, s3⟩ := hS; go_simp⟩) hS0 ?_
      refine wpAnyH_take (i := 2) (v := .bool true) rfl (by kernel_rfl) (by kernel_rfl) (by kernel_rfl) (fun _ _ _ h => h) (.inl ⟨rfl, fun w' hS => by obtain ⟨s2, s3⟩ := hS; go_simp⟩) hS0 ?_
      refine wpAnyH_take (i := 3) (v := undef) rfl (by kernel_rfl) (by kernel_rfl) (by kernel_rfl) (fun _ _ _ h => h) (.inr ⟨by first | (go_simp; done) | (go_simp; simp [undef]), rfl⟩) hS0 ?_
      refine wpAnyH_take (i := 4) (v := undef) rfl (by kernel_rfl) (by kernel_rfl) (by kernel_rfl) (fun _ _ _ h => h) (.inr ⟨by first | (go_simp; done) | (go_simp; simp [undef]), rfl⟩) hS0 ?_
      refine wpAnyH_take (i := 5) (v := undef) rfl (by kernel_rfl) (by kernel_rfl) (by kernel_rfl) (fun _ _ _ h => h) (.inr ⟨by first | (go_simp; done) | (go_simp; simp [undef]), rfl⟩) hS0 ?_
      refine wpAnyH_take (i := 6) (v := undef) rfl (by kernel_rfl) (by kernel_rfl) (by kernel_rfl) (fun _ _ _ h => h) (.inr ⟨by first | (go_simp; done) | (go_simp; simp [undef]), rfl⟩) hS0 ?_
      refine wpAnyH_take (i := 7) (v := undef) rfl (by kernel_rfl) (by kernel_rfl) (by kernel_rfl) (fun _ _ _ h => h) (.inr ⟨by first | (go_simp; done) | (go_simp; simp [undef]), rfl⟩) hS0 ?_
      refine wpAnyH_take (i := 8) (v := undef) rfl (by kernel_rfl) (by kernel_rfl) (by kernel_rfl) (fun _ _ _ h => h) (.inr ⟨by first | (go_simp; done) | (go_simp; simp [undef]), rfl⟩) hS0 ?_
      refine wpAnyH_take (i := 9) (v := undef) rfl (by kernel_rfl) (by kernel_rfl) (by kernel_rfl) (fun _ _ _ h => h) (.inr ⟨by first | (go_simp; done) | (go_simp; simp [undef]), rfl⟩) hS0 ?_
      refine wpAnyH_take (i := 10) (v := undef) rfl (by kernel_rfl) (by kernel_rfl) (by kernel_rfl) (fun _ _ _ h => h) (.inr ⟨by first | (go_simp; done) | (go_simp; simp [undef]), rfl⟩) hS0 ?_
      refine wpAnyH_take (i := 11) (v := undef) rfl (by kernel_rfl) (by kernel_rfl) (by kernel_rfl) (fun _ _ _ h => h) (.inr ⟨by first | (go_simp; done) | (go_simp; simp [undef]), rfl⟩) hS0 ?_
      refine wpAnyH_take (i := 12) (v := undef) rfl (by kernel_rfl) (by kernel_rfl) (by kernel_rfl) (fun _ _ _ h => h) (.inr ⟨by first | (go_simp; done) | (go_simp; simp [undef]), rfl⟩) hS0 ?_
      refine wpAnyH_take (i := 13) (v := undef) rfl (by kernel_rfl) (by kernel_rfl) (by kernel_rfl) (fun _ _ _ h => h) (.inr ⟨by first | (go_simp; done) | (go_simp; simp [undef]), rfl⟩) hS0 ?_
      refine wpAnyH_take (i := 14) (v := undef) rfl (by kernel_rfl) (by kernel_rfl) (by kernel_rfl) (fun _ _ _ h => h) (.inr ⟨by first | (go_simp; done) | (go_simp; simp [undef]), rfl⟩) hS0 ?_
      refine wpAnyH_take (i := 15) (v := .bool true) rfl (by kernel_rfl) (by kernel_rfl) (by kernel_rfl) (fun _ _ _ h => h) (.inl ⟨rfl, fun w' hS => by obtain ⟨s2, s3⟩ := hS; go_simp⟩) hS0 ?_
      refine wpAnyH_done (by kernel_rfl) ?_ _
      clear hS0
      go_simp
      go_wp2
      go_ret2
      exact SRes.no HNO.out (below_drewN HB7.out 1)
    have hb7' := HAR.out.trans (hb7.mono (by simp))
    have D7 := HDR.out.trans (hb7'.mono HDR.out.size)
    have HB7 := hid (HBR.out.trans (hb7'.mono HBR.out.size))
    have hS0 : w7.drew.cell? ⟨sb2, 0, none⟩ = some (.int .i64 pw) ∧ w7.drew.cell? ⟨hb, 3, none⟩ = some (.pointer (some ⟨sb, 0, none⟩)) ∧ w7.drew.cell? ⟨sb, 0, none⟩ = some (.int .i64 wd) := ⟨hsh.box.cell 0, (HH5.out.below D7).cell 3, (HS5.out.below D7).cell 0⟩
    have HG7 := hid (grownBy_trans HG.out (grown_of_below hb7') (fun g e => by cases e))
    have HX7 := hid (HBX.out.below hb7')
    have HR7 := hid (Below.row hb7' HROW.out)
    have hs7 := hb7'.size
    have HST := hid hv
    have HSH : Hid (ShOk w7 (sb2, mb2, vc2) ⟨pw, pr, pi, pt⟩) := hid (hsh.base (Nat.zero_le _))
    have HSA7 := hid (HSA.out.below hb7')
    clear hb7 hb7' D7 hsh hv
    by_cases hpw : pw = wd
    case neg =>
      have HNO := hid (HNV.out (fun h => hpw h.2))
      go_wp2_with fail
      refine wp_region_held (S := fun w' => w'.cell? ⟨sb2, 0, none⟩ = some (.int .i64 pw) ∧ w'.cell? ⟨hb, 3, none⟩ = some (.pointer (some ⟨sb, 0, none⟩)) ∧ w'.cell? ⟨sb, 0, none⟩ = some (.int .i64 wd)) (by kernel_rfl) ?_
      change wpAnyH _ _ _ _ _ _ _ _ (World.drew _)
      refine wpAnyH_take (i := 0) (v := .bool true) rfl (by kernel_rfl) (by kernel_rfl) (by kernel_rfl) (fun _ _ _ h => h) (.inl ⟨rfl, fun w' hS => by obtain ⟨s1, s2, s3⟩ := hS; go_simp⟩) hS0 ?_
      refine wpAnyH_take (i := 1) (v := .bool false) rfl (by kernel_rfl) (by kernel_rfl) (by kernel_rfl) (fun _ _ _ h => h) (.inl ⟨rfl, fun w' hS => by obtain ⟨s1, s2, s3⟩ := hS; go_simp⟩) hS0 ?_
      refine wpAnyH_take (i := 2) (v := .bool false) rfl (by kernel_rfl) (by kernel_rfl) (by kernel_rfl) (fun _ _ _ h => h) (.inl ⟨rfl, fun w' hS => by obtain ⟨s1, s2, s3⟩ := hS; go_simp⟩) hS0 ?_
      refine wpAnyH_take (i := 3) (v := .pointer (some ⟨sb2, 0, none⟩)) rfl (by kernel_rfl) (by kernel_rfl) (by kernel_rfl) (fun _ _ _ h => h) (.inl ⟨by go_simp, fun w' hS => by obtain ⟨s1, s2, s3⟩ := hS; go_simp⟩) hS0 ?_
      refine wpAnyH_take (i := 4) (v := .pointer (some ⟨sb2, 0, none⟩)) rfl (by kernel_rfl) (by kernel_rfl) (by kernel_rfl) (fun _ _ _ h => h) (.inl ⟨by go_simp, fun w' hS => by obtain ⟨s1, s2, s3⟩ := hS; go_simp⟩) hS0 ?_
      refine wpAnyH_take (i := 5) (v := .pointer (some ⟨sb2, 0, none⟩)) rfl (by kernel_rfl) (by kernel_rfl) (by kernel_rfl) (fun _ _ _ h => h) (.inl ⟨by go_simp, fun w' hS => by obtain ⟨s1, s2, s3⟩ := hS; go_simp⟩) hS0 ?_
      refine wpAnyH_take (i := 6) (v := .int .i64 pw) rfl (by kernel_rfl) (by kernel_rfl) (by kernel_rfl) (fun _ _ _ h => h) (.inl ⟨by go_simp, fun w' hS => by obtain ⟨s1, s2, s3⟩ := hS; go_simp⟩) hS0 ?_
      refine wpAnyH_take (i := 7) (v := .pointer (some ⟨hb, 0, none⟩)) rfl (by kernel_rfl) (by kernel_rfl) (by kernel_rfl) (fun _ _ _ h => h) (.inl ⟨by go_simp, fun w' hS => by obtain ⟨s1, s2, s3⟩ := hS; go_simp⟩) hS0 ?_
      refine wpAnyH_take (i := 8) (v := .pointer (some ⟨hb, 0, none⟩)) rfl (by kernel_rfl) (by kernel_rfl) (by kernel_rfl) (fun _ _ _ h => h) (.inl ⟨by go_simp, fun w' hS => by obtain ⟨s1, s2, s3⟩ := hS; go_simp⟩) hS0 ?_
      refine wpAnyH_take (i := 9) (v := .pointer (some ⟨hb, 3, none⟩)) rfl (by kernel_rfl) (by kernel_rfl) (by kernel_rfl) (fun _ _ _ h => h) (.inl ⟨by go_simp, fun w' hS => by obtain ⟨s1, s2, s3⟩ := hS; go_simp⟩) hS0 ?_
      refine wpAnyH_take (i := 10) (v := .pointer (some ⟨sb, 0, none⟩)) rfl (by kernel_rfl) (by kernel_rfl) (by kernel_rfl) (fun _ _ _ h => h) (.inl ⟨by go_simp, fun w' hS => by obtain ⟨s1, s2, s3⟩ := hS; go_simp⟩) hS0 ?_
      refine wpAnyH_take (i := 11) (v := .pointer (some ⟨sb, 0, none⟩)) rfl (by kernel_rfl) (by kernel_rfl) (by kernel_rfl) (fun _ _ _ h => h) (.inl ⟨by go_simp, fun w' hS => by obtain ⟨s1, s2, s3⟩ := hS; go_simp⟩) hS0 ?_
      refine wpAnyH_take (i := 12) (v := .pointer (some ⟨sb, 0, none⟩)) rfl (by kernel_rfl) (by kernel_rfl) (by kernel_rfl) (fun _ _ _ h => h) (.inl ⟨by go_simp, fun w' hS => by obtain ⟨s1, s2, s3⟩ := hS; go_simp⟩) hS0 ?_
      refine wpAnyH_take (i := 13) (v := .int .i64 wd) rfl (by kernel_rfl) (by kernel_rfl) (by kernel_rfl) (fun _ _ _ h => h) (.inl ⟨by go_simp, fun w' hS => by obtain ⟨s1, s2, s3⟩ := hS; go_simp⟩) hS0 ?_
      refine wpAnyH_take (i := 14) (v := .bool true) rfl (by kernel_rfl) (by kernel_rfl) (by kernel_rfl) (fun _ _ _ h => h) (.inl ⟨by go_simp, fun w' hS => by obtain ⟨s1, s2, s3⟩ := hS; go_simp⟩) hS0 ?_
      refine wpAnyH_take (i := 15) (v := .bool true) rfl (by kernel_rfl) (by kernel_rfl) (by kernel_rfl) (fun _ _ _ h => h) (.inl ⟨rfl, fun w' hS => by obtain ⟨s1, s2, s3⟩ := hS; go_simp⟩) hS0 ?_
      refine wpAnyH_done (by kernel_rfl) ?_ _
      clear hS0
      go_simp
      go_wp2
      go_ret2
      exact SRes.no HNO.out (below_drewN HB7.out 1)
    have HGO := hid (HPK.out ⟨HST.out, hpw⟩)
    go_wp2_with fail
    refine wp_region_held (S := fun w' => w'.cell? ⟨sb2, 0, none⟩ = some (.int .i64 pw) ∧ w'.cell? ⟨hb, 3, none⟩ = some (.pointer (some ⟨sb, 0, none⟩)) ∧ w'.cell? ⟨sb, 0, none⟩ = some (.int .i64 wd)) (by kernel_rfl) ?_
    change wpAnyH _ _ _ _ _ _ _ _ (World.drew _)
    refine wpAnyH_take (i := 0) (v := .bool true) rfl (by kernel_rfl) (by kernel_rfl) (by kernel_rfl) (fun _ _ _ h => h) (.inl ⟨rfl, fun w' hS => by obtain ⟨s1, s2, s3⟩ := hS; go_simp⟩) hS0 ?_
    refine wpAnyH_take (i := 1) (v := .bool false) rfl (by kernel_rfl) (by kernel_rfl) (by kernel_rfl) (fun _ _ _ h => h) (.inl ⟨rfl, fun w' hS => by obtain ⟨s1, s2, s3⟩ := hS; go_simp⟩) hS0 ?_
    refine wpAnyH_take (i := 2) (v := .bool false) rfl (by kernel_rfl) (by kernel_rfl) (by kernel_rfl) (fun _ _ _ h => h) (.inl ⟨rfl, fun w' hS => by obtain ⟨s1, s2, s3⟩ := hS; go_simp⟩) hS0 ?_
    refine wpAnyH_take (i := 3) (v := .pointer (some ⟨sb2, 0, none⟩)) rfl (by kernel_rfl) (by kernel_rfl) (by kernel_rfl) (fun _ _ _ h => h) (.inl ⟨by go_simp, fun w' hS => by obtain ⟨s1, s2, s3⟩ := hS; go_simp⟩) hS0 ?_
    refine wpAnyH_take (i := 4) (v := .pointer (some ⟨sb2, 0, none⟩)) rfl (by kernel_rfl) (by kernel_rfl) (by kernel_rfl) (fun _ _ _ h => h) (.inl ⟨by go_simp, fun w' hS => by obtain ⟨s1, s2, s3⟩ := hS; go_simp⟩) hS0 ?_
    refine wpAnyH_take (i := 5) (v := .pointer (some ⟨sb2, 0, none⟩)) rfl (by kernel_rfl) (by kernel_rfl) (by kernel_rfl) (fun _ _ _ h => h) (.inl ⟨by go_simp, fun w' hS => by obtain ⟨s1, s2, s3⟩ := hS; go_simp⟩) hS0 ?_
    refine wpAnyH_take (i := 6) (v := .int .i64 pw) rfl (by kernel_rfl) (by kernel_rfl) (by kernel_rfl) (fun _ _ _ h => h) (.inl ⟨by go_simp, fun w' hS => by obtain ⟨s1, s2, s3⟩ := hS; go_simp⟩) hS0 ?_
    refine wpAnyH_take (i := 7) (v := .pointer (some ⟨hb, 0, none⟩)) rfl (by kernel_rfl) (by kernel_rfl) (by kernel_rfl) (fun _ _ _ h => h) (.inl ⟨by go_simp, fun w' hS => by obtain ⟨s1, s2, s3⟩ := hS; go_simp⟩) hS0 ?_
    refine wpAnyH_take (i := 8) (v := .pointer (some ⟨hb, 0, none⟩)) rfl (by kernel_rfl) (by kernel_rfl) (by kernel_rfl) (fun _ _ _ h => h) (.inl ⟨by go_simp, fun w' hS => by obtain ⟨s1, s2, s3⟩ := hS; go_simp⟩) hS0 ?_
    refine wpAnyH_take (i := 9) (v := .pointer (some ⟨hb, 3, none⟩)) rfl (by kernel_rfl) (by kernel_rfl) (by kernel_rfl) (fun _ _ _ h => h) (.inl ⟨by go_simp, fun w' hS => by obtain ⟨s1, s2, s3⟩ := hS; go_simp⟩) hS0 ?_
    refine wpAnyH_take (i := 10) (v := .pointer (some ⟨sb, 0, none⟩)) rfl (by kernel_rfl) (by kernel_rfl) (by kernel_rfl) (fun _ _ _ h => h) (.inl ⟨by go_simp, fun w' hS => by obtain ⟨s1, s2, s3⟩ := hS; go_simp⟩) hS0 ?_
    refine wpAnyH_take (i := 11) (v := .pointer (some ⟨sb, 0, none⟩)) rfl (by kernel_rfl) (by kernel_rfl) (by kernel_rfl) (fun _ _ _ h => h) (.inl ⟨by go_simp, fun w' hS => by obtain ⟨s1, s2, s3⟩ := hS; go_simp⟩) hS0 ?_
    refine wpAnyH_take (i := 12) (v := .pointer (some ⟨sb, 0, none⟩)) rfl (by kernel_rfl) (by kernel_rfl) (by kernel_rfl) (fun _ _ _ h => h) (.inl ⟨by go_simp, fun w' hS => by obtain ⟨s1, s2, s3⟩ := hS; go_simp⟩) hS0 ?_
    refine wpAnyH_take (i := 13) (v := .int .i64 wd) rfl (by kernel_rfl) (by kernel_rfl) (by kernel_rfl) (fun _ _ _ h => h) (.inl ⟨by go_simp, fun w' hS => by obtain ⟨s1, s2, s3⟩ := hS; go_simp⟩) hS0 ?_
    refine wpAnyH_take (i := 14) (v := .bool false) rfl (by kernel_rfl) (by kernel_rfl) (by kernel_rfl) (fun _ _ _ h => h) (.inl ⟨by go_simp, fun w' hS => by obtain ⟨s1, s2, s3⟩ := hS; go_simp⟩) hS0 ?_
    refine wpAnyH_take (i := 15) (v := .bool false) rfl (by kernel_rfl) (by kernel_rfl) (by kernel_rfl) (fun _ _ _ h => h) (.inl ⟨rfl, fun w' hS => by obtain ⟨s1, s2, s3⟩ := hS; go_simp⟩) hS0 ?_
    refine wpAnyH_done (by kernel_rfl) ?_ _
    clear hS0
    go_simp
    clear hpw
    obtain ⟨w8, hw8⟩ : ∃ w8, w8 = w7.drew := ⟨_, rfl⟩
    have hb8 : Below w7.heap.size w7 w8 := by rw [hw8]; exact below_drewN (Below.refl _ _) 1
    have hrow8 := Below.row hb8 HR7.out
    have hbx8 := HX7.out.below hb8
    have hg8 := grownBy_trans HG7.out (grown_of_below hb8) (fun g e => by cases e)
    have hs8 := hb8.size
    have HSA8 := hid (HSNC.out w8 (sb2, mb2, vc2) (HSA7.out.below hb8) (ShelfAt.below HSH.out hb8))
    have l0 : ∀ o, (w8.alloc o).cell? ⟨w5.heap.size, 2, none⟩ = some vst := fun o => (hbx8.alloc o).cell 2
    have l1 : w8.cell? ⟨w5.heap.size, 2, none⟩ = some vst := hbx8.cell 2
    have hz8 := hg8.size
    clear hb8
    rw [← hw8]
    clear hw8
    go_wp2_with (at_builtin; refine wpList_append_own _ rfl _ _ 102 rfl w6.heap.size 93 i0 (.pointer none) 1 8 Tryz.underlying102 hi0 hz0 hz1 hz2 rfl (by decide) _ _ _ rfl (hrow8.alloc _) ⟨_, 0, none⟩ 1 1 [.pointer (some ⟨sb2, 0, none⟩)] rfl rfl (ptr_lies _ _ _) (by simp [Value.oneCell']) (by unfold maxLen; omega) (by omega) (by simp; omega) ?_; intro v' w9 hown' hgrow _; obtain ⟨av, cv, rfl⟩ := row_any hown'; obtain ⟨hb9, ho9, hg9⟩ := field_stored (c := 2) hbx8 hrow8 (by omega) hown' hgrow; have l6 : w9.cell? ⟨w5.heap.size, 2, none⟩ = some vst := hb9.cell 2; have f6 := hb9.fz 2)
    have HSA9 := hid (((HSA8.out.below ((Below.refl _ _).alloc (Nat.le_refl _) _)).offRow (hrow8.alloc _) hgrow (by decide) (by decide)).off (grownBy_setCellAt w9 w5.heap.size 2 (.slice av (k + 1) cv)) hb9 (by decide) (by decide))
    exact ⟨⟨k + 1, _, sh ++ [(sb2, mb2, vc2)], by omega, by go_num, HGO.out, hb9.set 2 _, by rw [List.map_append]; exact ho9, hg9 _ hg8 rfl, by show _ = _; rw [List.length_append, HLN9.out]; rfl, HSA9.out⟩, by simp [intOf]; omega⟩
end Go.Proofs.YtlnkhbnbcmllaaaGreat
