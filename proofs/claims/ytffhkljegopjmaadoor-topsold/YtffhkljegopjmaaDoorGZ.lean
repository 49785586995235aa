/- lives -/
import Derived.Test.YtffhkljegopjmaaDoorGX
namespace Go.Proofs.YtffhkljegopjmaaDoor.Lg
open Go.RowKit
set_option maxRecDepth 40000
theorem OpP.done {A' : List Py} {G' : List Pg} {w : World} {e : Ending} {w' : World} (h : OpP 0 A' G' w e w') : Below w.heap.size w w' ∧ ∃ a n c b m d, e = .returned (.tuple #[vb a n c b m d, .int .i64 0]) ∧ IsP w' a n c (A'.filter keepB) ∧ IsG w' b m d G' ∧ BksA A' (A'.filter keepB) G' ∧ NewA w.heap.size a ∧ NewA w.heap.size b := by
  obtain ⟨h1, ⟨h2, _⟩ | ⟨_, a, c, b, d, h3, h4, h5, h6⟩⟩ := h
  · exact absurd rfl h2
  · exact ⟨h1, a, _, c, b, _, d, h3, h4, h5, h6⟩
theorem OpP.no {r : Int} {A' : List Py} {G' : List Pg} {w : World} {e : Ending} {w' : World} (h : OpP r A' G' w e w') (hr : r ≠ 0) : Below w.heap.size w w' ∧ e = .returned (.tuple #[vb none 0 0 none 0 0, .int .i64 r]) := by
  obtain ⟨h1, ⟨_, h2⟩ | ⟨h2, _⟩⟩ := h
  · exact ⟨h1, h2⟩
  · exact absurd h2 hr
theorem SetP.done {v : Int} {A' : List Py} {G' : List Pg} {w : World} {e : Ending} {w' : World} (h : SetP 0 v A' G' w e w') : Below w.heap.size w w' ∧ ∃ a n c b m d, e = .returned (.tuple #[vb a n c b m d, .int .i64 v, .int .i64 0]) ∧ IsP w' a n c (A'.filter keepB) ∧ IsG w' b m d G' ∧ BksA A' (A'.filter keepB) G' ∧ NewA w.heap.size a ∧ NewA w.heap.size b := by
  obtain ⟨h1, ⟨h2, _⟩ | ⟨_, a, c, b, d, h3, h4, h5, h6⟩⟩ := h
  · exact absurd rfl h2
  · exact ⟨h1, a, _, c, b, _, d, h3, h4, h5, h6⟩
theorem SetP.no {r v : Int} {A' : List Py} {G' : List Pg} {w : World} {e : Ending} {w' : World} (h : SetP r v A' G' w e w') (hr : r ≠ 0) : Below w.heap.size w w' ∧ e = .returned (.tuple #[vb none 0 0 none 0 0, .int .i64 0, .int .i64 r]) := by
  obtain ⟨h1, ⟨_, h2⟩ | ⟨h2, _⟩⟩ := h
  · exact ⟨h1, h2⟩
  · exact absurd h2 hr
theorem pv_set {A : List Py} (hA : IdxR A) {n m : Int} (hn : ordB n = true) (hm : ordB m = true) (y : Py) : pvA (A.set n.toNat y) m = if m = n then (if noneB y = true then ⟨n, 0, 0, 0⟩ else y) else pvA A m := by
  unfold pvA
  rw [atA_set hA hn hm]
  split
  case isTrue e => rw [e]
  case isFalse => rfl
theorem payV_set {A : List Py} (hA : IdxR A) {n m : Int} (hn : ordB n = true) (hm : ordB m = true) (y : Py) : payV (A.set n.toNat y) m = if m = n then (if noneB y = true then Py0 else y) else payV A m := by
  unfold payV
  rw [atA_set hA hn hm]
  split <;> rfl
/-- the row of one pay alone, of order 1 -/
def A1of (y : Py) : List Py := (List.replicate 1025 Py0).set (1 : Int).toNat y
theorem a1_set (y z : Py) : (A1of y).set (1 : Int).toNat z = A1of z := by unfold A1of; rw [List.set_set]
theorem a1_pv (y : Py) (h : noneB y = false) : pvA (A1of y) 1 = y := by
  unfold A1of
  rw [pv_set idx_zero (by decide) (by decide), if_pos rfl, if_neg (by rw [h]; decide)]
theorem a1_payV (y : Py) (h : noneB y = false) : payV (A1of y) 1 = y := by
  unfold A1of
  rw [payV_set idx_zero (by decide) (by decide), if_pos rfl, if_neg (by rw [h]; decide)]
theorem a0_pv : pvA (List.replicate 1025 Py0) 1 = ⟨1, 0, 0, 0⟩ := by
  unfold pvA atA
  rw [List.getD_eq_getElem?_getD, List.getElem?_replicate, if_pos (by decide)]
theorem a1_filter (y : Py) (h : noneB y = false) : (A1of y).filter keepB = [y] := by
  obtain ⟨F1, F2, e, _, _, hs⟩ := split_row idx_zero (t := (1 : Int).toNat) (by decide)
  have e0 : (List.replicate 1025 Py0).filter keepB = [] := by rw [List.filter_replicate]; rfl
  rw [e0] at e
  have h1 := List.append_eq_nil_iff.1 e.symm
  have h2 := List.append_eq_nil_iff.1 h1.1
  unfold A1of
  rw [hs, h2.1, h1.2]
  unfold oneL
  rw [h]
  rfl
theorem live1 : authE (List.replicate 1025 Py0) [] 1 500 = 0 ∧ (List.replicate 1025 Py0).set (1 : Int).toNat (behR (pvA (List.replicate 1025 Py0) 1) ⟨1, 1, 2, 500⟩) = A1of ⟨1, 500, 0, 0⟩ := by
  unfold authE
  rw [a0_pv]
  exact ⟨by decide, rfl⟩
theorem live2 (G : List Pg) (hG : G.length < 16384) : setE (A1of ⟨1, 500, 0, 0⟩) G 1 3 = 0 ∧ (pvA (A1of ⟨1, 500, 0, 0⟩) 1).op = 500 ∧ (A1of ⟨1, 500, 0, 0⟩).set (1 : Int).toNat (behR (pvA (A1of ⟨1, 500, 0, 0⟩) 1) ⟨1, 2, 3, (pvA (A1of ⟨1, 500, 0, 0⟩) 1).op⟩) = A1of ⟨1, 0, 500, 0⟩ := by
  unfold setE
  rw [a1_pv _ (by decide), a1_set, if_neg (by decide), if_neg (by decide), if_neg (by omega), if_neg (by decide)]
  exact ⟨rfl, rfl, rfl⟩
theorem live3 (G : List Pg) (hG : G.length < 16384) : refE (A1of ⟨1, 0, 500, 0⟩) G 1 200 = 0 ∧ (A1of ⟨1, 0, 500, 0⟩).set (1 : Int).toNat (behR (pvA (A1of ⟨1, 0, 500, 0⟩) 1) ⟨1, 3, 1, 200⟩) = A1of ⟨1, 0, 500, 200⟩ := by
  unfold refE
  rw [a1_pv _ (by decide), a1_set, if_neg (by decide), if_neg (by decide), if_neg (by decide), if_neg (by omega), if_neg (by decide)]
  exact ⟨rfl, rfl⟩
theorem live4 (G : List Pg) : refE (A1of ⟨1, 0, 500, 200⟩) G 1 400 = 13 := by
  unfold refE
  rw [a1_pv _ (by decide), if_neg (by decide), if_neg (by decide), if_pos (by decide)]
theorem live5 : num (balS ((A1of ⟨1, 0, 500, 200⟩).filter keepB) 1) = -300 ∧ err (balS ((A1of ⟨1, 0, 500, 200⟩).filter keepB) 1) = 0 := by
  rw [a1_filter _ (by decide)]
  exact ⟨by decide, by decide⟩
end Go.Proofs.YtffhkljegopjmaaDoor.Lg
