/- what the row's list gives: the table of moves, the powers of ten; a world for the witness -/
import Derived.Test.YtfbfmhfceemkgaaDoorCards
import Derived.Test.YtfbfmhfceemkgaaDoorTie
import Derived.Test.YtfbfmhfceemkgaaDoorTV
import Derived.WalkKit
import Derived.ProofKit
import Derived.OpenShut
import Derived.Deep.DeepHandedRow
import Derived.Lib.LaidTab
namespace Go.Proofs.YtfbfmhfceemkgaaDoor
open Go.ChangeShapes Go.WideShapes Go.ChangeAt Go.RowKit
theorem own : ownKnob Tryd.prog.godebug = none := by kernel_rfl
theorem laidOut : laidOutB Tryd.prog = true := by kernel_rfl
theorem gMade : Tryd.prog.globalNamed "lading/ship.made" = some 0 := by kernel_rfl
theorem gMadeType : (Tryd.prog.globals[0]?).map (·.type) = some 72 := by kernel_rfl
theorem cl72 : Tryd.prog.cellsOf 72 = 49 := by kernel_rfl
theorem cl71 : Tryd.prog.cellsOf 71 = 7 := by kernel_rfl
theorem cl32 : Tryd.prog.cellsOf 32 = 1 := by kernel_rfl
/-- the rows of the table -/
def rowsT : List (List Int) := [[0, 1, 0, 0, 0, 0, 0], [0, 0, 2, 0, 4, 0, 0], [0, 0, 0, 3, 0, 5, 0], [0, 0, 0, 0, 0, 5, 0], [0, 0, 0, 0, 0, 0, 0], [0, 0, 0, 0, 0, 0, 6], [0, 0, 0, 0, 0, 0, 0]]
theorem laid_rows {H : Type} : (Rows.laid_lading_ship_made : DataW H) = .agg (rowsT.map fun zs => Lib.tabData .u8 zs) := rfl
/-- an array of arrays is read row by row -/
theorem row_read {H : Type} {enc : TypeId × Value → H} {w : World} {fuel : Nat} {cs : List Value} {ds : List (DataW H)} {p : List MemPlace}
    (h : DataW.trod enc Tryd.prog w 0 (fun _ => true) false (fuel + 1) 72 cs = some (.agg ds, p)) {i : Nat} (hi : i < 7) : ∃ d q, ds[i]? = some d ∧ DataW.trod enc Tryd.prog w 0 (fun _ => true) false fuel 71 ((cs.drop (i * 7)).take 7) = some (d, q) := by
  simp only [DataW.trod, Tryd.underlying72, cl71] at h
  split at h
  case isFalse => cases h
  case isTrue =>
    obtain ⟨xs, hm, hx⟩ := Option.map_eq_some_iff.1 h
    obtain ⟨b, hb, hf⟩ := Lib.mapM_at hm i i (by simp [hi])
    refine ⟨b.1, b.2, ?_, hf⟩
    have h1 : xs.map (·.1) = ds := by
      have := congrArg Prod.fst hx
      simpa using this
    rw [← h1, List.getElem?_map, hb]
    rfl
theorem table1 {W : World} (h1 : laidMet Tryd.prog [("lading/ship.made", Rows.laid_lading_ship_made)] W) : Tab W := by
  obtain ⟨ps, ⟨g, t, cs, fuel, p, q, hg, ht, hv, hd, _, rfl⟩, _, hc⟩ := h1
  obtain rfl := Option.some.inj (gMade.symm.trans hg)
  obtain rfl := Option.some.inj (gMadeType.symm.trans ht)
  cases fuel with
  | zero => simp [DataW.trod] at hd
  | succ fuel =>
    have cell : ∀ s m : Nat, s < 7 → m < 7 → W.cell? ⟨0, s * 7 + m, none⟩ = some (.int .u8 (mk s m)) := by
      intro s m hs hm
      rw [World.var?_cell hg hv]
      rw [laid_rows] at hd
      obtain ⟨d, q', e, hr⟩ := row_read hd hs
      rw [List.getElem?_map] at e
      obtain ⟨zs, hz, rfl⟩ := Option.map_eq_some_iff.1 e
      have hc := Lib.cells_of_tab Tryd.underlying71 Tryd.underlying32 cl32 cl71 hr
      have hk := congrArg (·[m]?) hc
      simp only [List.getElem?_take, hm, if_true, List.getElem?_drop] at hk
      rw [← Array.getElem?_toList, hk]
      rcases (by omega : s = 0 ∨ s = 1 ∨ s = 2 ∨ s = 3 ∨ s = 4 ∨ s = 5 ∨ s = 6) with rfl | rfl | rfl | rfl | rfl | rfl | rfl <;> cases hz <;>
        rcases (by omega : m = 0 ∨ m = 1 ∨ m = 2 ∨ m = 3 ∨ m = 4 ∨ m = 5 ∨ m = 6) with rfl | rfl | rfl | rfl | rfl | rfl | rfl <;> rfl
    refine ⟨?_, cell⟩
    have := cell 0 0 (by omega) (by omega)
    unfold World.cell? at this
    by_cases h0 : 0 < W.heap.size
    · exact h0
    · rw [Array.getElem?_eq_none (by omega)] at this
      cases this
theorem laid_tail {P : Program} {w : World} {x : String × DataW Unit} {l : List (String × DataW Unit)} (h : laidMet P (x :: l) w) : laidMet P l w := by
  obtain ⟨ps, ⟨g, t, cs, fuel, p, q, h1, h2, h3, h4, h5, rfl⟩, hnd, hc⟩ := h
  exact ⟨q, h5, (List.nodup_append.1 hnd).2.1, fun b off hm => hc b off (List.mem_append_right _ hm)⟩
theorem gPow : Tryd.prog.globalNamed "internal/strconv.uint64pow10" = some 1 := by kernel_rfl
theorem gPowType : (Tryd.prog.globals[1]?).map (·.type) = some 88 := by kernel_rfl
theorem cl88 : Tryd.prog.cellsOf 88 = 20 := by kernel_rfl
theorem cl61 : Tryd.prog.cellsOf 61 = 1 := by kernel_rfl
theorem table {W : World} (h : laidMetH Tryd.prog [("math/bits.deBruijn32tab", Rows.laid_math_bits_deBruijn32tab), ("math/bits.deBruijn64tab", Rows.laid_math_bits_deBruijn64tab), ("internal/strconv.uint64pow10", Rows.laid_internal_strconv_uint64pow10), ("lading/ship.made", Rows.laid_lading_ship_made)] W) : Tab W ∧ POW W := by
  have h1 : laidMet Tryd.prog [("math/bits.deBruijn32tab", Rows.laid_math_bits_deBruijn32tab), ("math/bits.deBruijn64tab", Rows.laid_math_bits_deBruijn64tab), ("internal/strconv.uint64pow10", Rows.laid_internal_strconv_uint64pow10), ("lading/ship.made", Rows.laid_lading_ship_made)] W := h
  have h3 := laid_tail (laid_tail h1)
  exact ⟨table1 (laid_tail h3), Lib.tabIs_of_head gPow gPowType Tryd.underlying88 Tryd.underlying61 cl61 cl88 h3⟩
def putCells (cs : Array Value) : Obj → Obj
  | .cells _ t frozen => .cells cs t frozen
  | o => o
/-- the settled world, the table holding what its initialiser lays -/
noncomputable def laidWorld (os : Os) : World :=
  { World.holding Tryd.prog os ⟨#[], #[], []⟩ with heap := ((((World.holding Tryd.prog os ⟨#[], #[], []⟩).heap.modify 0 (putCells #[.int .u8 0, .int .u8 1, .int .u8 0, .int .u8 0, .int .u8 0, .int .u8 0, .int .u8 0, .int .u8 0, .int .u8 0, .int .u8 2, .int .u8 0, .int .u8 4, .int .u8 0, .int .u8 0, .int .u8 0, .int .u8 0, .int .u8 0, .int .u8 3, .int .u8 0, .int .u8 5, .int .u8 0, .int .u8 0, .int .u8 0, .int .u8 0, .int .u8 0, .int .u8 0, .int .u8 5, .int .u8 0, .int .u8 0, .int .u8 0, .int .u8 0, .int .u8 0, .int .u8 0, .int .u8 0, .int .u8 0, .int .u8 0, .int .u8 0, .int .u8 0, .int .u8 0, .int .u8 0, .int .u8 0, .int .u8 6, .int .u8 0, .int .u8 0, .int .u8 0, .int .u8 0, .int .u8 0, .int .u8 0, .int .u8 0])).modify 1 (putCells #[.int .u64 1, .int .u64 10, .int .u64 100, .int .u64 1000, .int .u64 10000, .int .u64 100000, .int .u64 1000000, .int .u64 10000000, .int .u64 100000000, .int .u64 1000000000, .int .u64 10000000000, .int .u64 100000000000, .int .u64 1000000000000, .int .u64 10000000000000, .int .u64 100000000000000, .int .u64 1000000000000000, .int .u64 10000000000000000, .int .u64 100000000000000000, .int .u64 1000000000000000000, .int .u64 10000000000000000000])).modify 2 (putCells #[.int .u8 0, .int .u8 1, .int .u8 28, .int .u8 2, .int .u8 29, .int .u8 14, .int .u8 24, .int .u8 3, .int .u8 30, .int .u8 22, .int .u8 20, .int .u8 15, .int .u8 25, .int .u8 17, .int .u8 4, .int .u8 8, .int .u8 31, .int .u8 27, .int .u8 13, .int .u8 23, .int .u8 21, .int .u8 19, .int .u8 16, .int .u8 7, .int .u8 26, .int .u8 12, .int .u8 18, .int .u8 6, .int .u8 11, .int .u8 5, .int .u8 10, .int .u8 9])).modify 3 (putCells #[.int .u8 0, .int .u8 1, .int .u8 56, .int .u8 2, .int .u8 57, .int .u8 49, .int .u8 28, .int .u8 3, .int .u8 61, .int .u8 58, .int .u8 42, .int .u8 50, .int .u8 38, .int .u8 29, .int .u8 17, .int .u8 4, .int .u8 62, .int .u8 47, .int .u8 59, .int .u8 36, .int .u8 45, .int .u8 43, .int .u8 51, .int .u8 22, .int .u8 53, .int .u8 39, .int .u8 33, .int .u8 30, .int .u8 24, .int .u8 18, .int .u8 12, .int .u8 5, .int .u8 63, .int .u8 55, .int .u8 48, .int .u8 27, .int .u8 60, .int .u8 41, .int .u8 37, .int .u8 16, .int .u8 46, .int .u8 35, .int .u8 44, .int .u8 21, .int .u8 52, .int .u8 32, .int .u8 23, .int .u8 11, .int .u8 54, .int .u8 26, .int .u8 40, .int .u8 15, .int .u8 34, .int .u8 20, .int .u8 31, .int .u8 10, .int .u8 25, .int .u8 14, .int .u8 19, .int .u8 9, .int .u8 13, .int .u8 8, .int .u8 7, .int .u8 6]) }
theorem in64_wf {n : Int} (h : (Lit.int .i64 n).wf = true) : i64B n := by
  have := range_i64 (zs := [n]) (by intro m hm; simp at hm; subst hm; exact h) 0
  simpa [i64B] using this
theorem in8_wf {n : Int} (h : (Lit.int .u8 n).wf = true) : u8B n := by
  have := range_u8 (zs := [n]) (by intro m hm; simp at hm; subst hm; exact h) 0
  simpa [u8B] using this
end Go.Proofs.YtfbfmhfceemkgaaDoor
