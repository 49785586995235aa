/- a row of pays that is written -/
import Derived.Test.YtffhkljegopjmaaDoorGD
namespace Go.Proofs.YtffhkljegopjmaaDoor.Lg
open Go.RowKit
set_option maxRecDepth 40000
def put4o (w : World) (q o : Nat) (x : Py) : World := (((w.setCell ⟨q, o, none⟩ (.int .i64 x.o)).setCell ⟨q, o + 1, none⟩ (.int .i64 x.op)).setCell ⟨q, o + 2, none⟩ (.int .i64 x.ca)).setCell ⟨q, o + 3, none⟩ (.int .i64 x.re)
theorem flat_set (y : Py) : ∀ (l : List Py) (i : Nat), i < l.length → ((((l.flatMap pyc).set (i * 4) (.int .i64 y.o)).set (i * 4 + 1) (.int .i64 y.op)).set (i * 4 + 2) (.int .i64 y.ca)).set (i * 4 + 3) (.int .i64 y.re) = (l.set i y).flatMap pyc
  | [], i, h => by simp at h
  | x :: r, 0, _ => by simp [List.flatMap_cons]
  | x :: r, i + 1, h => by
    have ih := flat_set y r i (by simpa using h)
    rw [List.set_cons_succ, List.flatMap_cons, List.flatMap_cons, ← ih]
    have e : ∀ (t : List Value) (j : Nat) (v : Value), (pyc x ++ t).set (4 + j) v = pyc x ++ t.set j v := fun t j v => by
      show (.int .i64 x.o :: .int .i64 x.op :: .int .i64 x.ca :: .int .i64 x.re :: t).set (4 + j) v = _
      rw [show 4 + j = j + 1 + 1 + 1 + 1 by omega, List.set_cons_succ, List.set_cons_succ, List.set_cons_succ, List.set_cons_succ]
      rfl
    rw [show (i + 1) * 4 = 4 + i * 4 by omega, show 4 + i * 4 + 1 = 4 + (i * 4 + 1) by omega, show 4 + i * 4 + 2 = 4 + (i * 4 + 2) by omega, show 4 + i * 4 + 3 = 4 + (i * 4 + 3) by omega, e, e, e, e]
theorem RowP.set {w : World} {q : Nat} {l : List Py} (h : RowP w q l) {i : Nat} (hi : i < l.length) (y : Py) : RowP (put4o w q (i * 4) y) q (l.set i y) := by
  unfold RowP put4o
  rw [blk_set (blk_set (blk_set (blk_set h _) _) _) _, ← flat_set y l i hi]
  congr 2
  simp
theorem put4o_below {n : Nat} {a w : World} {q o : Nat} (h : Below n a w) (hn : n ≤ q) (y : Py) : Below n a (put4o w q o y) :=
  (((h.setCell hn _).setCell hn _).setCell hn _).setCell hn _
theorem put4o_other {w : World} {q o g : Nat} {x : Py} (h : BlkP w g x) (hn : g ≠ q) (y : Py) : BlkP (put4o w q o y) g x :=
  (((h.other hn _).other hn _).other hn _).other hn _
theorem RowP.froz {w : World} {q : Nat} {l : List Py} (h : RowP w q l) (j : Nat) : w.frozen? ⟨q, j, none⟩ = false := froz_blk h j
theorem RowP.below {n : Nat} {w w' : World} {q : Nat} {l : List Py} (h : RowP w q l) (hn : q < n) (hb : Below n w w') : RowP w' q l := (hb.block q hn).trans h
theorem RowP.isP {w : World} {q : Nat} {l : List Py} (h : RowP w q l) (ho : ∀ x ∈ l, okP x) (hl : l.length ≤ maxLen) : IsP w (some ⟨q, 0, none⟩) l.length l.length l :=
  ⟨rfl, Nat.le_refl _, hl, ho, fun i hi => ⟨q, 0, rfl, heap_lt h, by rw [Nat.zero_add]; exact h.at hi⟩, by intro e; cases e⟩
/-- clear(s) of pays -/
theorem run_clear4 (w : World) (ty : TypeId) (b o n c : Nat) (hn : 0 < n) (hc : ∀ j, j < n * 4 → (w.cell? ⟨b, o + j, none⟩).isSome = true) (hf : ∀ j, j < n * 4 → w.frozen? ⟨b, o + j, none⟩ = false) :
    ∃ zs : List Value, zs.length = n * 4 ∧ (Builtin.clear_ #[32] ty #[.slice (some ⟨b, o, none⟩) n c]).run Tryd.prog w = .ok (.tuple #[]) (w.setCells b o zs) := by
  have hv : ∀ w, (zeroValue 47).run Tryd.prog w = .ok (vp Py0) w := Tryd.zeroValue47
  have hl : (Builtin.zeroCells (vp Py0).cells n).toList.length = n * 4 := by rw [Array.length_toList, size_zeroCells]; rfl
  have h1 : ∀ v ∈ (Builtin.zeroCells (vp Py0).cells n).toList, v.oneCell' = true := by
    intro v hv'
    simp only [Builtin.zeroCells, Array.mem_toList_iff, Array.mem_map] at hv'
    obtain ⟨i, _, rfl⟩ := hv'
    show ((vp Py0).cells[i % 4]!).oneCell' = true
    have hm : i % 4 < 4 := Nat.mod_lt _ (by decide)
    generalize i % 4 = m at hm
    rcases (by omega : m = 0 ∨ m = 1 ∨ m = 2 ∨ m = 3) with rfl | rfl | rfl | rfl <;> rfl
  have hst := run_storeCells_cells (P := Tryd.prog) b o (Builtin.zeroCells (vp Py0).cells n).toList 0 w (by rw [hl]; simpa using hc) (by rw [hl]; simpa using hf) h1
  simp only [Nat.add_zero] at hst
  refine ⟨_, hl, ?_⟩
  obtain ⟨m, rfl⟩ : ∃ m, n = m + 1 := ⟨n - 1, by omega⟩
  simp [Builtin.clear_, run_underlying Tryd.underlying32, hv, hst]
/-- cells ahead of what is written stay -/
theorem cell_setCells_lt (q : Nat) : ∀ (vs : List Value) (o : Nat) (w : World) (b j : Nat), (b ≠ q ∨ j < o) → (w.setCells q o vs).cell? ⟨b, j, none⟩ = w.cell? ⟨b, j, none⟩
  | [], _, _, _, _, _ => rfl
  | v :: r, o, w, b, j, h => by
    have ih := cell_setCells_lt q r (o + 1) (w.setCell ⟨q, o, none⟩ v) b j (by omega)
    refine Eq.trans ?_ (ih.trans ?_)
    · rfl
    · rw [World.cell?_setCell_other]
      intro e
      injection e with e1 e2
      omega
theorem below_setCells (q : Nat) : ∀ (vs : List Value) (o : Nat) {n : Nat} {a w : World}, Below n a w → n ≤ q → Below n a (w.setCells q o vs)
  | [], _, _, _, _, h, _ => h
  | v :: r, o, _, _, _, h, hn => below_setCells q r (o + 1) (h.setCell hn v) hn
end Go.Proofs.YtffhkljegopjmaaDoor.Lg
