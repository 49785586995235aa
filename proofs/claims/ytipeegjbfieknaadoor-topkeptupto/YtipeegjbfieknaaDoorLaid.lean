/- what the rows' lists give: the table of the powers of ten; a world for the witnesses -/
import Derived.Test.YtipeegjbfieknaaDoorCards
import Derived.Test.YtipeegjbfieknaaDoorTie
import Derived.Test.YtipeegjbfieknaaDoorTB
import Derived.WalkKit
import Derived.Deep.Slices
import Derived.ChangeSame
import Derived.SizedLaws
import Derived.ProofKit
import Derived.OpenShut
import Derived.Deep.DeepHandedRow
import Derived.Lib.LaidTab
namespace Go.Proofs.YtipeegjbfieknaaDoor
open Go.ChangeShapes Go.WideShapes Go.ChangeAt Go.RowKit Mn
theorem own : ownKnob Tryd.prog.godebug = none := by kernel_rfl
theorem laidOut : laidOutB Tryd.prog = true := by kernel_rfl
theorem laid_tail {P : Program} {w : World} {x : String × DataW Unit} {l : List (String × DataW Unit)} (h : laidMet P (x :: l) w) : laidMet P l w := by
  obtain ⟨ps, ⟨g, t, cs, fuel, p, q, h1, h2, h3, h4, h5, rfl⟩, hnd, hc⟩ := h
  exact ⟨q, h5, (List.nodup_append.1 hnd).2.1, fun b off hm => hc b off (List.mem_append_right _ hm)⟩
theorem gPow : Tryd.prog.globalNamed "internal/strconv.uint64pow10" = some 0 := by kernel_rfl
theorem gPowType : (Tryd.prog.globals[0]?).map (·.type) = some 99 := by kernel_rfl
theorem cells79 : Tryd.prog.cellsOf 99 = 20 := by kernel_rfl
theorem cells44 : Tryd.prog.cellsOf 44 = 1 := by kernel_rfl
theorem table {W : World} (h : laidMetH Tryd.prog [("math/bits.deBruijn32tab", Rows.laid_math_bits_deBruijn32tab), ("math/bits.deBruijn64tab", Rows.laid_math_bits_deBruijn64tab), ("internal/strconv.uint64pow10", Rows.laid_internal_strconv_uint64pow10)] W) : POW W := by
  have h1 : laidMet Tryd.prog [("math/bits.deBruijn32tab", Rows.laid_math_bits_deBruijn32tab), ("math/bits.deBruijn64tab", Rows.laid_math_bits_deBruijn64tab), ("internal/strconv.uint64pow10", Rows.laid_internal_strconv_uint64pow10)] W := h
  have h3 := laid_tail (laid_tail h1)
  exact Lib.tabIs_of_head (rest := []) gPow gPowType Tryd.underlying99 Tryd.underlying44 cells44 cells79 h3
theorem in64_wf {n : Int} (h : (Lit.int .i64 n).wf = true) : In64 n := by
  have := range_i64 (zs := [n]) (by intro m hm; simp at hm; subst hm; exact h) 0
  simpa [In64] using this
theorem isI_nil (w : World) : IsI w none 0 0 [] := ⟨rfl, Nat.le_refl _, by decide, (by intro x hx; cases hx), .inl ⟨rfl, fun _ => rfl⟩⟩
/-- an argument's reading, as a list of whole numbers -/
theorem isI_of_ints {w : World} {x : Addr} {len cap : Nat} {zs : List Int} (hl : len ≤ cap) (hm : cap ≤ maxLen) (hz : zs.length = cap) (hcell : ∀ i, i < zs.length → w.cell? (x.add i) = some (.int .i64 (zs.getD i 0)))
    (hwz : ∀ n ∈ zs, (Lit.int .i64 n).wf = true) (hlt : ∀ b off, x = ⟨b, off, none⟩ → ∀ i, i < len → b < w.heap.size) : IsI w (some x) len cap (zs.take len) := by
  refine ⟨by simp; omega, hl, hm, fun y hy => in64_wf (hwz y (List.mem_of_mem_take hy)), ?_⟩
  by_cases h0 : len = 0
  · exact .inl ⟨h0, by intro h; cases h⟩
  · obtain ⟨b, off, spot⟩ := x
    have hspot : spot = none := by
      have := World.cell?_spot (hcell 0 (by omega))
      simpa [Addr.add] using this
    subst hspot
    refine .inr ⟨b, off, rfl, hlt b off rfl 0 (by omega), fun i hi => ?_⟩
    have hc := hcell i (by omega)
    rw [addr_add] at hc
    rw [hc]
    have hi' : i < zs.length := by omega
    simp [List.getD_eq_getElem?_getD, hi, List.getElem?_eq_getElem hi']
def putCells (cs : Array Value) : Obj → Obj
  | .cells _ t frozen => .cells cs t frozen
  | o => o
/-- the settled world, the three tables holding what their initialisers lay -/
noncomputable def laidWorld (os : Os) : World :=
  { World.holding Tryd.prog os ⟨#[], #[], []⟩ with heap := (((World.holding Tryd.prog os ⟨#[], #[], []⟩).heap.modify 0 (putCells #[.int .u64 1, .int .u64 10, .int .u64 100, .int .u64 1000, .int .u64 10000, .int .u64 100000, .int .u64 1000000, .int .u64 10000000, .int .u64 100000000, .int .u64 1000000000, .int .u64 10000000000, .int .u64 100000000000, .int .u64 1000000000000, .int .u64 10000000000000, .int .u64 100000000000000, .int .u64 1000000000000000, .int .u64 10000000000000000, .int .u64 100000000000000000, .int .u64 1000000000000000000, .int .u64 10000000000000000000])).modify 2 (putCells #[.int .u8 0, .int .u8 1, .int .u8 28, .int .u8 2, .int .u8 29, .int .u8 14, .int .u8 24, .int .u8 3, .int .u8 30, .int .u8 22, .int .u8 20, .int .u8 15, .int .u8 25, .int .u8 17, .int .u8 4, .int .u8 8, .int .u8 31, .int .u8 27, .int .u8 13, .int .u8 23, .int .u8 21, .int .u8 19, .int .u8 16, .int .u8 7, .int .u8 26, .int .u8 12, .int .u8 18, .int .u8 6, .int .u8 11, .int .u8 5, .int .u8 10, .int .u8 9])).modify 3 (putCells #[.int .u8 0, .int .u8 1, .int .u8 56, .int .u8 2, .int .u8 57, .int .u8 49, .int .u8 28, .int .u8 3, .int .u8 61, .int .u8 58, .int .u8 42, .int .u8 50, .int .u8 38, .int .u8 29, .int .u8 17, .int .u8 4, .int .u8 62, .int .u8 47, .int .u8 59, .int .u8 36, .int .u8 45, .int .u8 43, .int .u8 51, .int .u8 22, .int .u8 53, .int .u8 39, .int .u8 33, .int .u8 30, .int .u8 24, .int .u8 18, .int .u8 12, .int .u8 5, .int .u8 63, .int .u8 55, .int .u8 48, .int .u8 27, .int .u8 60, .int .u8 41, .int .u8 37, .int .u8 16, .int .u8 46, .int .u8 35, .int .u8 44, .int .u8 21, .int .u8 52, .int .u8 32, .int .u8 23, .int .u8 11, .int .u8 54, .int .u8 26, .int .u8 40, .int .u8 15, .int .u8 34, .int .u8 20, .int .u8 31, .int .u8 10, .int .u8 25, .int .u8 14, .int .u8 19, .int .u8 9, .int .u8 13, .int .u8 8, .int .u8 7, .int .u8 6]) }
section
open Go.Deep
theorem cells82 : Tryd.prog.cellsOf 58 = 2 := by kernel_rfl
theorem cells80 : Tryd.prog.cellsOf 56 = 1 := by kernel_rfl
theorem cells5 : Tryd.prog.cellsOf 5 = 1 := by kernel_rfl
theorem add_add' (a : Addr) (i j : Nat) : (a.add i).add j = a.add (i + j) := by
  cases a with
  | mk b off sp => by_cases hi : i = 0 <;> by_cases hj : j = 0 <;> simp [Addr.add, hi, hj] <;> omega
theorem choose_lt' {α : Type} (d : α) {n : Nat} {Pr : Nat → α → Prop} (h : ∀ i, i < n → ∃ x, Pr i x) : ∃ f : Nat → α, ∀ i, i < n → Pr i (f i) :=
  ⟨fun i => if hi : i < n then Classical.choose (h i hi) else d, fun i hi => by simp only [dif_pos hi]; exact Classical.choose_spec (h i hi)⟩
section
variable {H : Type} {enc : TypeId × Value → H} {W : World} {base : Nat} {spare : Nat → Bool} {held : Bool}
set_option maxRecDepth 40000 in
theorem open_fate {fuel : Nat} {cs : List Value} {x : DataW H × List MemPlace} (h : DataW.trod enc Tryd.prog W base spare held fuel 58 cs = some x) :
    ∃ y : Nat × Nat, cs = [.int .u8 (y.1 : Nat), .int .u8 (y.2 : Nat)] ∧ y.1 < 256 ∧ y.2 < 256 := by
  obtain ⟨xs, n, rfl, rfl, hl, hx, hf⟩ := DataW.trod_struct Tryd.underlying58 h
  rw [cells82] at hl
  have hx2 : xs.length = 2 := hx
  match xs, hx2, cs, hl with
  | [y0, y1], _, [v0, v1], _ =>
    have g0 : DataW.trod enc Tryd.prog W base spare held n 56 [v0] = some y0 := by simpa [cells80] using hf 0 _ rfl
    have g1 : DataW.trod enc Tryd.prog W base spare held n 5 [v1] = some y1 := by simpa [cells5] using hf 1 _ rfl
    obtain ⟨n0, e0, _, w0⟩ := DataW.trod_int Tryd.underlying56 g0
    obtain ⟨n1, e1, _, w1⟩ := DataW.trod_int Tryd.underlying5 g1
    have b0 := bounds_u8 w0
    have b1 := bounds_u8 w1
    cases e0; cases e1
    refine ⟨(n0.toNat, n1.toNat), ?_, by simp only []; omega, by simp only []; omega⟩
    rw [Int.toNat_of_nonneg b0.1, Int.toNat_of_nonneg b1.1]
/-- fates, opened -/
theorem open_fates {fuel : Nat} {cs : List Value} {x : DataW H × List MemPlace} (h : DataW.trod enc Tryd.prog W base spare held fuel 23 cs = some x) (hlt : ∀ p ∈ x.2, p.block < W.heap.size) :
    ∃ a len cap l, cs = [.slice a len cap] ∧ IsF W a len cap l := by
  rcases open_slice Tryd.underlying23 h with ⟨rfl, _⟩ | ⟨a, len, cap, m, n, D, Pl, rfl, hb, hl, hm, hmm, rfl, hx⟩
  · exact ⟨none, 0, 0, [], rfl, ⟨rfl, Nat.le_refl _, Nat.zero_le _, by simp, fun i hi => by omega⟩⟩
  · have hlm : len ≤ m := by rw [hmm]; split <;> omega
    have each : ∀ i, i < len → ∃ y : Nat × Nat, (W.cell? (a.add (i * 2)) = some (.int .u8 (y.1 : Nat)) ∧ W.cell? (a.add (i * 2 + 1)) = some (.int .u8 (y.2 : Nat))) ∧ y.1 < 256 ∧ y.2 < 256 := by
      intro i hi
      obtain ⟨cs', h1, h2⟩ := hx i (by omega)
      rw [cells82] at h1
      obtain ⟨y, rfl, hy⟩ := open_fate h2
      obtain ⟨_, _, hcell⟩ := World.cells?_some h1
      have e0 := hcell 0 (by omega)
      have e1 := hcell 1 (by omega)
      rw [add_add'] at e0 e1
      exact ⟨y, ⟨by simpa using e0, by simpa using e1⟩, hy⟩
    obtain ⟨f, hf⟩ := choose_lt' (0, 0) each
    refine ⟨some a, len, cap, (List.range len).map f, rfl, by simp, hl, hm, ?_, fun i hi => ?_⟩
    · intro y hy
      obtain ⟨i, hi, rfl⟩ := List.mem_map.1 hy
      exact (hf i (List.mem_range.1 hi)).2
    · obtain ⟨b, off, spot⟩ := a
      have hspot : spot = none := by
        have := World.cell?_spot (hf 0 (by omega)).1.1
        simpa [Addr.add] using this
      subst hspot
      have hg : ((List.range len).map f).getD i (0, 0) = f i := by simp [List.getD_eq_getElem?_getD, hi]
      rw [hg]
      obtain ⟨c0, c1⟩ := (hf i hi).1
      rw [addr_add] at c0 c1
      refine ⟨b, off, rfl, ?_, c0, by rw [Nat.add_assoc]; exact c1⟩
      refine hlt (.cell b off) (List.mem_append_left _ ?_)
      exact MemPlace.mem_row.2 ⟨0, by rw [cells82]; omega, by simp⟩
end
end
end Go.Proofs.YtipeegjbfieknaaDoor
