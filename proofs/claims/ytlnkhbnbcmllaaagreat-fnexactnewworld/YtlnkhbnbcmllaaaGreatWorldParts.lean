/- What impl.openWorld calls: isParcel, isFlight, slices.Clone; how many peers a map has. -/
import Derived.Test.YtlnkhbnbcmllaaaGreatWorldSpec
import Derived.Test.YtlnkhbnbcmllaaaGreatMapPeers
import Derived.Test.YtlnkhbnbcmllaaaGreatGetImpl
import Derived.Test.YtlnkhbnbcmllaaaGreatWorldTo
import Derived.Lib.SliceRun
namespace Go.Proofs.YtlnkhbnbcmllaaaGreat
open Go.RowKit
set_option maxRecDepth 100000 in
set_option maxHeartbeats 400000 in
theorem isParcel_any (a b : Int) (s : ByteArray) (h : Bool) (x : ByteArray) (w : World) (hs : s.size ≤ 1048576) (hx : x.size ≤ 1048576) :
    Calls Tryz.prog 78 #[.agg #[.int .i64 a, .int .i64 b, .string s, .bool h, .string x]] w fun e w' => VRes (s.size ≤ 8 ∧ x.size ≤ 7000) w e w' := by
  have HA := hid ((Below.refl w.heap.size w).alloc (Nat.le_refl _) (.cells #[.int .i64 a, .int .i64 b, .string s, .bool h, .string x] 101))
  by_cases h1 : s.size ≤ 8
  case neg =>
    have HNO : Hid (¬ (s.size ≤ 8 ∧ x.size ≤ 7000)) := fun k => h1 k.1
    have h1' : ¬ ((s.size : Int) ≤ 8) := by omega
    clear h1
    go_enter Tryz.func78, Tryz.ntmps78
    go_wp2
    go_ret
    exact VRes.no HNO.out HA.out
  have h1' : (s.size : Int) ≤ 8 := by omega
  by_cases h2 : x.size ≤ 7000
  case neg =>
    have HNO : Hid (¬ (s.size ≤ 8 ∧ x.size ≤ 7000)) := fun k => h2 k.2
    have h2' : ¬ ((x.size : Int) ≤ 7000) := by omega
    clear h1 h2
    go_enter Tryz.func78, Tryz.ntmps78
    go_wp2
    go_ret
    exact VRes.no HNO.out HA.out
  have h2' : (x.size : Int) ≤ 7000 := by omega
  have HYES : Hid (s.size ≤ 8 ∧ x.size ≤ 7000) := ⟨h1, h2⟩
  clear h1 h2
  go_enter Tryz.func78, Tryz.ntmps78
  go_wp2
  go_ret
  exact VRes.yes HYES.out HA.out
set_option maxRecDepth 100000 in
set_option maxHeartbeats 2000000 in
theorem isFlight_any (v : Value) (ms : Mgs) (n : Nat) (w : World) (hv : RdM w v ms) (hl : ms.length ≤ 1048576) (hf : MsFit 1048576 ms) :
    Calls Tryz.prog 53 #[v, .int .i64 n] w fun e w' => VRes (ms.length ≤ 300 ∧ ∀ i, i < ms.length → MgOk n (mat ms i)) w e w' := by
  obtain ⟨a, ca, rfl, hca⟩ := id hv
  by_cases h0 : ms.length ≤ 300
  case neg =>
    have HNO : Hid (¬ (ms.length ≤ 300 ∧ ∀ i, i < ms.length → MgOk n (mat ms i))) := fun k => h0 k.1
    have h0' : (300 : Int) < (ms.length : Int) := by omega
    clear h0 hca hf
    go_enter Tryz.func53, Tryz.ntmps53
    go_wp2
    go_ret
    exact VRes.no HNO.out (Below.refl _ _)
  have h0' : ¬ ((300 : Int) < (ms.length : Int)) := by omega
  have HV := hid hv
  have HF := hid hf
  have HH0 := hid h0
  clear hca hf hv h0
  go_enter Tryz.func53, Tryz.ntmps53
  go_wp2
  clear h0'
  go_loopw [12] (fun i' wr => ∃ k : Nat, k ≤ ms.length ∧ i' = .int .i64 k ∧ (∀ j, j < k → MgOk n (mat ms j)) ∧ Below w.heap.size w wr) (fun i' _ => ms.length - (intOf i').toNat)
  case atStart => exact ⟨0, Nat.zero_le _, rfl, fun j hj => absurd hj (by omega), Below.refl _ _⟩
  case round =>
    obtain ⟨k, hk, rfl, hok, hbl⟩ := hrel
    have HOK := hid hok
    have HBL := hid hbl
    clear hok
    by_cases hlt : k < ms.length
    · obtain ⟨a', c', e', hc⟩ := id (HV.out.below hbl)
      cases e'
      obtain ⟨b0, o0, rfl, h5⟩ := hc k hlt
      have hfk := HF.out k hlt
      have HPK : Hid (MgOk n (mat ms k) → ∀ j, j < k + 1 → MgOk n (mat ms j)) := fun h j hj => (Nat.lt_or_eq_of_le (Nat.le_of_lt_succ hj)).elim (HOK.out j) (fun e => e ▸ h)
      have HNV : Hid (¬ MgOk n (mat ms k) → ¬ (ms.length ≤ 300 ∧ ∀ i, i < ms.length → MgOk n (mat ms i))) := fun h hv => h (hv.2 k hlt)
      generalize mat ms k = p at h5 hfk HPK HNV
      obtain ⟨pf, pt, psm, ph, px⟩ := p
      obtain ⟨x0, x1, x2, x3, x4, x5⟩ := h5
      obtain ⟨y0, y1⟩ := hfk
      dsimp only at x1 x2 x3 x4 x5 y0 y1 HPK HNV
      have HAZ := hid ((Below.refl wr.heap.size wr).alloc (Nat.le_refl _) (.cells #[.int .i64 pf, .int .i64 pt, .string psm, .bool ph, .string px] 101))
      have HBA := hid (hbl.trans (HAZ.out.mono hbl.size))
      have HIP := hid (isParcel_any pf pt psm ph px (wr.alloc (.cells #[.int .i64 pf, .int .i64 pt, .string psm, .bool ph, .string px] 101)) y0 y1)
      clear hc hbl x0 y0 y1
      by_cases h1 : 0 ≤ pf
      case neg =>
        have HNO := hid (HNV.out (fun h => h1 h.fr.1))
        have h1' : pf < 0 := by omega
        clear h1
        go_wp2
        go_ret
        exact VRes.no HNO.out HBA.out
      have h1' : ¬ (pf < 0) := by omega
      by_cases h2 : pf ≤ (n : Int)
      case neg =>
        have HNO := hid (HNV.out (fun h => h2 h.fr.2))
        have h2' : (n : Int) < pf := by omega
        clear h1 h2
        go_wp2
        go_ret
        exact VRes.no HNO.out HBA.out
      have h2' : ¬ ((n : Int) < pf) := by omega
      by_cases h3 : 0 ≤ pt
      case neg =>
        have HNO := hid (HNV.out (fun h => h3 h.dst.1))
        have h3' : pt < 0 := by omega
        clear h1 h2 h3
        go_wp2
        go_ret
        exact VRes.no HNO.out HBA.out
      have h3' : ¬ (pt < 0) := by omega
      by_cases h4 : pt ≤ (n : Int)
      case neg =>
        have HNO := hid (HNV.out (fun h => h4 h.dst.2))
        have h4' : (n : Int) < pt := by omega
        clear h1 h2 h3 h4
        go_wp2
        go_ret
        exact VRes.no HNO.out HBA.out
      have h4' : ¬ ((n : Int) < pt) := by omega
      have HM := hid (show psm.size ≤ 8 ∧ px.size ≤ 7000 → MgOk n ⟨pf, pt, psm, ph, px⟩ from fun q => ⟨⟨h1, h2⟩, ⟨h3, h4⟩, q.1, q.2⟩)
      clear h1 h2 h3 h4
      go_wp2_with fail
      refine HIP.out.mono ?_
      rintro e w5 ⟨b, rfl, hb, hb5⟩
      have HB5 := hid (HBA.out.trans (hb5.mono HBA.out.size))
      clear hb5
      cases b with
      | false =>
        have HNO := hid (HNV.out (fun h => by have := hb.2 ⟨h.sum, h.text⟩; cases this))
        clear hb
        go_wp2
        go_ret
        exact VRes.no HNO.out HB5.out
      | true =>
        have HGO := hid (HPK.out (HM.out (hb.1 rfl)))
        clear hb
        go_wp2
        go_roundw
        case rel => exact ⟨k + 1, by omega, by go_num, HGO.out, HB5.out⟩
        case measure => simp [intOf]; omega
    · obtain rfl : k = ms.length := by omega
      have HYES : Hid (ms.length ≤ 300 ∧ ∀ i, i < ms.length → MgOk n (mat ms i)) := ⟨HH0.out, HOK.out⟩
      clear hbl
      go_wp2
      go_ret
      exact VRes.yes HYES.out HBL.out
def cellsM (ms : Mgs) : List Value := ms.flatMap fun p => [.int .i64 p.fr, .int .i64 p.to, .string p.sum, .bool p.has, .string p.text]
theorem cellsM_len : ∀ ms : Mgs, (cellsM ms).length = ms.length * 5
  | [] => rfl
  | q :: r => by
    have := cellsM_len r
    simp only [cellsM, List.flatMap_cons, List.length_append, List.length_cons, List.length_nil] at this ⊢
    omega
theorem cellsM_one (ms : Mgs) : ∀ u ∈ cellsM ms, u.oneCell' = true := by
  intro u hu
  unfold cellsM at hu
  rw [List.mem_flatMap] at hu
  obtain ⟨p, _, hp⟩ := hu
  simp only [List.mem_cons, List.not_mem_nil, or_false] at hp
  rcases hp with rfl | rfl | rfl | rfl | rfl <;> rfl
theorem cellsM_at : ∀ (ms : Mgs) (f : Nat → Option Value), (∀ i, i < ms.length → f (i * 5) = some (.int .i64 (mat ms i).fr) ∧ f (i * 5 + 1) = some (.int .i64 (mat ms i).to) ∧ f (i * 5 + 2) = some (.string (mat ms i).sum) ∧ f (i * 5 + 3) = some (.bool (mat ms i).has) ∧ f (i * 5 + 4) = some (.string (mat ms i).text)) → ∀ j u, (cellsM ms)[j]? = some u → f j = some u
  | [], f, _, j, u, hj => by simp [cellsM] at hj
  | q :: r, f, h, j, u, hj => by
    have e : cellsM (q :: r) = [.int .i64 q.fr, .int .i64 q.to, .string q.sum, .bool q.has, .string q.text] ++ cellsM r := rfl
    rw [e] at hj
    have h0 := h 0 (by simp)
    have m0 : mat (q :: r) 0 = q := rfl
    rw [m0] at h0
    by_cases hlt : j < 5
    · rw [List.getElem?_append_left (by simpa using hlt)] at hj
      obtain ⟨a0, a1, a2, a3, a4⟩ := h0
      match j, hlt with
      | 0, _ => simpa using a0.trans hj
      | 1, _ => simpa using a1.trans hj
      | 2, _ => simpa using a2.trans hj
      | 3, _ => simpa using a3.trans hj
      | 4, _ => simpa using a4.trans hj
    · rw [List.getElem?_append_right (by simp; omega)] at hj
      have := cellsM_at r (fun i => f (i + 5)) (fun i hi => by
        have h1 := h (i + 1) (by simpa using hi)
        have m1 : mat (q :: r) (i + 1) = mat r i := rfl
        rw [m1, show (i + 1) * 5 = i * 5 + 5 by omega] at h1
        obtain ⟨a0, a1, a2, a3, a4⟩ := h1
        exact ⟨a0, by rw [show i * 5 + 1 + 5 = i * 5 + 5 + 1 by omega]; exact a1, by rw [show i * 5 + 2 + 5 = i * 5 + 5 + 2 by omega]; exact a2, by rw [show i * 5 + 3 + 5 = i * 5 + 5 + 3 by omega]; exact a3, by rw [show i * 5 + 4 + 5 = i * 5 + 5 + 4 by omega]; exact a4⟩) (j - 5) u (by simpa using hj)
      have ej : j - 5 + 5 = j := by omega
      simpa [ej] using this
set_option maxRecDepth 100000 in
set_option maxHeartbeats 1000000 in
theorem cloneBools_any (v : Value) (bs : List Bool) (w : World) (hv : RdB w v bs) (hl : bs.length ≤ 1048576) :
    Calls Tryz.prog 54 #[v] w fun e w' => ∃ v', e = .returned v' ∧ w'.ownsRow w.heap.size 4 1 v' bs.length (bs.map Value.bool) ∧ Below w.heap.size w w' := by
  obtain ⟨i0, hi, hz0, hz1, hz2⟩ := info_parts Tryz.infoBool
  obtain ⟨a, ca, rfl, hca⟩ := hv
  have q : ∀ (w : World) (a : Option Addr) (n c n' c' : Nat), (binOp .eql 38 (.slice a n c) (.slice none n' c')).run Tryz.prog w = .ok (.bool a.isNone) w := fun w a n c n' c' => Lib.run_eql_slice_nil w _ _ a n c n' c' Tryz.underlying38
  cases a with
  | none =>
    have h0 : bs = [] := by
      cases bs with
      | nil => rfl
      | cons x r => obtain ⟨b, off, e, _⟩ := hca 0 (by simp); cases e
    subst h0
    clear hca
    go_enter Tryz.func54, Tryz.ntmps54
    go_wp2
    go_ret
    exact ⟨_, rfl, World.ownsRow_nil _ _ _ _, Below.refl _ _⟩
  | some ad =>
    have hA := (Below.refl w.heap.size w).alloc (Nat.le_refl _) (.cells #[] 4)
    have hO : (w.alloc (.cells #[] 4)).ownsRow w.heap.size 4 1 (.slice (some ⟨w.heap.size, 0, none⟩) 0 0) 0 [] := by simpa using World.ownsRow_made (base := w.heap.size) (e := 4) (size := 1) w #[] 0 (Nat.le_refl _) (by simp [maxLen]) rfl
    have hnews : ∀ j u, (bs.map Value.bool)[j]? = some u → (w.alloc (.cells #[] 4)).cell? (ad.add j) = some u := by
      intro j u hj
      have hjl : j < bs.length := by have := (List.getElem?_eq_some_iff.1 hj).1; simpa using this
      obtain ⟨b, off, e, hb, hc⟩ := hca j hjl
      cases e
      have e2 : (⟨b, off, none⟩ : Addr).add j = ⟨b, off + j, none⟩ := by simp [Addr.add]
      rw [e2, hA.cell (p := ⟨b, off + j, none⟩) hb, hc, ← hj]
      simp [hjl]
    have HA := hid hA
    clear hca hA
    go_enter Tryz.func54, Tryz.ntmps54
    go_wp2_with (at_builtin; refine wpList_append_own _ rfl _ _ 38 rfl w.heap.size 4 i0 (.bool false) 1 1 Tryz.underlying38 hi hz0 hz1 hz2 rfl (by decide) (.slice (some ⟨w.heap.size, 0, none⟩) 0 0) 0 [] rfl hO ad bs.length ca (bs.map Value.bool) rfl (by simp) hnews (fun u hu => by obtain ⟨x, _, rfl⟩ := List.mem_map.1 hu; rfl) (by unfold maxLen; omega) (by omega) (by simp) ?_; intro v1 w1 ho1 hg1 _; obtain ⟨a1, c1, rfl⟩ := row_any ho1)
    go_ret
    exact ⟨_, rfl, by simpa using ho1, HA.out.grown hg1 (by simp) (fun g e => (hO.lt g e).1)⟩
set_option maxRecDepth 100000 in
set_option maxHeartbeats 1000000 in
theorem cloneMsgs_any (v : Value) (ms : Mgs) (w : World) (hv : RdM w v ms) (hl : ms.length ≤ 1048576) :
    Calls Tryz.prog 55 #[v] w fun e w' => ∃ v', e = .returned v' ∧ w'.ownsRow w.heap.size 101 5 v' ms.length (cellsM ms) ∧ Below w.heap.size w w' := by
  obtain ⟨i0, hi, hz0, hz1, hz2⟩ := info_parts Tryz.infoMsg
  obtain ⟨a, ca, rfl, hca⟩ := hv
  have q : ∀ (w : World) (a : Option Addr) (n c n' c' : Nat), (binOp .eql 40 (.slice a n c) (.slice none n' c')).run Tryz.prog w = .ok (.bool a.isNone) w := fun w a n c n' c' => Lib.run_eql_slice_nil w _ _ a n c n' c' Tryz.underlying40
  cases a with
  | none =>
    have h0 : ms = [] := by
      cases ms with
      | nil => rfl
      | cons x r => obtain ⟨b, off, e, _⟩ := hca 0 (by simp); cases e
    subst h0
    clear hca
    go_enter Tryz.func55, Tryz.ntmps55
    go_wp2
    go_ret
    exact ⟨_, rfl, World.ownsRow_nil _ _ _ _, Below.refl _ _⟩
  | some ad =>
    have hA := (Below.refl w.heap.size w).alloc (Nat.le_refl _) (.cells #[] 101)
    have hO : (w.alloc (.cells #[] 101)).ownsRow w.heap.size 101 5 (.slice (some ⟨w.heap.size, 0, none⟩) 0 0) 0 [] := by simpa using World.ownsRow_made (base := w.heap.size) (e := 101) (size := 5) w #[] 0 (Nat.le_refl _) (by simp [maxLen]) rfl
    have hnews : ∀ j u, (cellsM ms)[j]? = some u → (w.alloc (.cells #[] 101)).cell? (ad.add j) = some u := by
      refine cellsM_at ms (fun j => (w.alloc (.cells #[] 101)).cell? (ad.add j)) (fun i hi => ?_)
      obtain ⟨b, off, e, h5⟩ := hca i hi
      cases e
      have g5 := h5.below hA
      have e2 : ∀ j, (⟨b, off, none⟩ : Addr).add j = ⟨b, off + j, none⟩ := fun j => by simp [Addr.add]
      refine ⟨?_, ?_, ?_, ?_, ?_⟩ <;> rw [e2]
      · exact g5.c0
      · rw [← Nat.add_assoc]; exact g5.c1
      · rw [← Nat.add_assoc]; exact g5.c2
      · rw [← Nat.add_assoc]; exact g5.c3
      · rw [← Nat.add_assoc]; exact g5.c4
    have HA := hid hA
    clear hca hA
    go_enter Tryz.func55, Tryz.ntmps55
    go_wp2_with (at_builtin; refine wpList_append_own _ rfl _ _ 40 rfl w.heap.size 101 i0 (.agg #[.int .i64 0, .int .i64 0, .string ⟨#[]⟩, .bool false, .string ⟨#[]⟩]) 5 56 Tryz.underlying40 hi hz0 hz1 hz2 rfl (by decide) (.slice (some ⟨w.heap.size, 0, none⟩) 0 0) 0 [] rfl hO ad ms.length ca (cellsM ms) rfl (by exact cellsM_len ms) hnews (cellsM_one ms) (by unfold maxLen; omega) (by omega) (by simp) ?_; intro v1 w1 ho1 hg1 _; obtain ⟨a1, c1, rfl⟩ := row_any ho1)
    go_ret
    exact ⟨_, rfl, by simpa using ho1, HA.out.grown hg1 (by simp) (fun g e => (hO.lt g e).1)⟩
end Go.Proofs.YtlnkhbnbcmllaaaGreat
