/- what the rows' lists give: the table of moves; a world for the witnesses -/
import Derived.Test.YtdiciobdknddkaaDoorCards
import Derived.Test.YtdiciobdknddkaaDoorTie
import Derived.Test.YtdiciobdknddkaaDoorA
import Derived.WalkKit
import Derived.ProofKit
import Derived.OpenShut
import Derived.Deep.DeepHandedRow
import Derived.Lib.LaidTab
namespace Go.Proofs.YtdiciobdknddkaaDoor
open Go.ChangeShapes Go.WideShapes Go.ChangeAt Go.RowKit
theorem own : ownKnob Tryd.prog.godebug = none := by kernel_rfl
theorem laidOut : laidOutB Tryd.prog = true := by kernel_rfl
theorem gMade : Tryd.prog.globalNamed "lading/ship.made" = some 0 := by kernel_rfl
theorem gMadeType : (Tryd.prog.globals[0]?).map (·.type) = some 47 := by kernel_rfl
theorem cells47 : Tryd.prog.cellsOf 47 = 49 := by kernel_rfl
theorem cells46 : Tryd.prog.cellsOf 46 = 7 := by kernel_rfl
theorem cells22 : Tryd.prog.cellsOf 22 = 1 := by kernel_rfl
/-- the rows of the table -/
def rowsT : List (List Int) := [[0, 1, 0, 0, 0, 0, 0], [0, 0, 2, 0, 4, 0, 0], [0, 0, 0, 3, 0, 5, 0], [0, 0, 0, 0, 0, 5, 0], [0, 0, 0, 0, 0, 0, 0], [0, 0, 0, 0, 0, 0, 6], [0, 0, 0, 0, 0, 0, 0]]
theorem laid_rows {H : Type} : (Rows.laid_lading_ship_made : DataW H) = .agg (rowsT.map fun zs => Lib.tabData .u8 zs) := rfl
/-- an array of arrays is read row by row -/
theorem row_read {H : Type} {enc : TypeId × Value → H} {w : World} {fuel : Nat} {cs : List Value} {ds : List (DataW H)} {p : List MemPlace}
    (h : DataW.trod enc Tryd.prog w 0 (fun _ => true) false (fuel + 1) 47 cs = some (.agg ds, p)) {i : Nat} (hi : i < 7) : ∃ d q, ds[i]? = some d ∧ DataW.trod enc Tryd.prog w 0 (fun _ => true) false fuel 46 ((cs.drop (i * 7)).take 7) = some (d, q) := by
  simp only [DataW.trod, Tryd.underlying47, cells46] at h
  split at h
  case isFalse => cases h
  case isTrue =>
    obtain ⟨xs, hm, hx⟩ := Option.map_eq_some_iff.1 h
    obtain ⟨b, hb, hf⟩ := Lib.mapM_at hm i i (by simp [hi])
    refine ⟨b.1, b.2, ?_, hf⟩
    have h1 : xs.map (·.1) = ds := by
      have := congrArg Prod.fst hx
      simpa using this
    rw [← h1, List.getElem?_map, hb]
    rfl
theorem table {W : World} (h : laidMetH Tryd.prog [("lading/ship.made", Rows.laid_lading_ship_made)] W) : Tab W := by
  have h1 : laidMet Tryd.prog [("lading/ship.made", Rows.laid_lading_ship_made)] W := h
  obtain ⟨ps, ⟨g, t, cs, fuel, p, q, hg, ht, hv, hd, _, rfl⟩, _, hc⟩ := h1
  obtain rfl := Option.some.inj (gMade.symm.trans hg)
  obtain rfl := Option.some.inj (gMadeType.symm.trans ht)
  cases fuel with
  | zero => simp [DataW.trod] at hd
  | succ fuel =>
    have cell : ∀ s m : Nat, s < 7 → m < 7 → W.cell? ⟨0, s * 7 + m, none⟩ = some (.int .u8 (mk s m)) := by
      intro s m hs hm
      rw [World.var?_cell hg hv]
      rw [laid_rows] at hd
      obtain ⟨d, q', e, hr⟩ := row_read hd hs
      rw [List.getElem?_map] at e
      obtain ⟨zs, hz, rfl⟩ := Option.map_eq_some_iff.1 e
      have hc := Lib.cells_of_tab Tryd.underlying46 Tryd.underlying22 cells22 cells46 hr
      have hk := congrArg (·[m]?) hc
      simp only [List.getElem?_take, hm, if_true, List.getElem?_drop] at hk
      rw [← Array.getElem?_toList, hk]
      rcases (by omega : s = 0 ∨ s = 1 ∨ s = 2 ∨ s = 3 ∨ s = 4 ∨ s = 5 ∨ s = 6) with rfl | rfl | rfl | rfl | rfl | rfl | rfl <;> cases hz <;>
        rcases (by omega : m = 0 ∨ m = 1 ∨ m = 2 ∨ m = 3 ∨ m = 4 ∨ m = 5 ∨ m = 6) with rfl | rfl | rfl | rfl | rfl | rfl | rfl <;> rfl
    refine ⟨?_, cell⟩
    have := cell 0 0 (by omega) (by omega)
    unfold World.cell? at this
    by_cases h0 : 0 < W.heap.size
    · exact h0
    · rw [Array.getElem?_eq_none (by omega)] at this
      cases this
def putCells (cs : Array Value) : Obj → Obj
  | .cells _ t frozen => .cells cs t frozen
  | o => o
/-- the settled world, the table holding what its initialiser lays -/
noncomputable def laidWorld (os : Os) : World :=
  { World.holding Tryd.prog os ⟨#[], #[], []⟩ with heap := (World.holding Tryd.prog os ⟨#[], #[], []⟩).heap.modify 0 (putCells (rowsT.flatMap fun zs => zs.map fun z => Value.int .u8 z).toArray) }
theorem in64_wf {n : Int} (h : (Lit.int .i64 n).wf = true) : i64B n := by
  have := range_i64 (zs := [n]) (by intro m hm; simp at hm; subst hm; exact h) 0
  simpa [i64B] using this
theorem in8_wf {n : Int} (h : (Lit.int .u8 n).wf = true) : u8B n := by
  have := range_u8 (zs := [n]) (by intro m hm; simp at hm; subst hm; exact h) 0
  simpa [u8B] using this
end Go.Proofs.YtdiciobdknddkaaDoor
