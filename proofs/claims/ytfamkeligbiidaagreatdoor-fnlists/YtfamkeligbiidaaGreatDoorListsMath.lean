/- What is described is built again. -/
import Derived.Test.YtfamkeligbiidaaGreatDoorBuildImpl
import Derived.Test.YtfamkeligbiidaaGreatDoorNamesLaw
namespace Go.Proofs.YtfamkeligbiidaaGreatDoor
open Go.RowKit
theorem cat_pieces (t : ByteArray) (h : t.size ≤ 3000) : catB (piecesOf t) = t := by
  have h1 := pcs_text t _ 0 (piecesOf_pcs t h)
  rw [List.drop_zero] at h1
  rcases t with ⟨⟨l⟩⟩
  have h2 : l = ((piecesOf ⟨⟨l⟩⟩).map fun p => p.data.toList).flatten := h1
  show (⟨((piecesOf ⟨⟨l⟩⟩).flatMap fun p => p.data.toList).toArray⟩ : ByteArray) = ⟨⟨l⟩⟩
  rw [List.flatMap_def, ← h2]
theorem build_desc {t : ByteArray} {m : Int} (hw : isW m = true) (h : t.size ≤ 3000) : buildR (descN t m) (descS t m) (piecesOf t) m = .tuple #[.string t, .bool true] := by
  have hh : hasL t m = true := by simp [hasL, hw, h]
  have hc := cat_pieces t h
  have hz : total (piecesOf t) = t.size := by rw [← catB_size, hc]
  have hn : descN t m = t.size := by simp [descN, hh]
  have hs : descS t m = (piecesOf t).map (sumT m) := by simp [descS, hh]
  have hok : buildOk (descN t m) (descS t m) (piecesOf t) m = true := by
    unfold buildOk
    rw [desc_ok hw h, hc, hz]
    simp only [Bool.true_and, Bool.and_eq_true, decide_eq_true_eq]
    exact ⟨hn.symm, hs.symm, trivial⟩
  unfold buildR
  rw [if_pos hok, hc]
theorem build_back {n m : Int} {ss ps : List ByteArray} (h : buildOk n ss ps m = true) : descN (catB ps) m = n ∧ descS (catB ps) m = ss := by
  unfold buildOk at h
  simp only [Bool.and_eq_true, decide_eq_true_eq] at h
  obtain ⟨hok, hz, _, hd⟩ := h
  refine ⟨?_, hd⟩
  have hb := okL_size hok
  have hw : isW m = true := by
    unfold okL at hok
    simp only [Bool.and_eq_true] at hok
    exact hok.1
  have hsz := catB_size ps
  have hh : hasL (catB ps) m = true := by
    simp [hasL, hw]; omega
  simp [descN, hh]
  omega
end Go.Proofs.YtfamkeligbiidaaGreatDoor
