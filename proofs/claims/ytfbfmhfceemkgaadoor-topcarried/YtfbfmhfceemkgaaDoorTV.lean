/- what TopCarried's walk leans on: move, verdicts, rows beside a saga's block -/
import Derived.Test.YtfbfmhfceemkgaaDoorTU
import Derived.ChangeSlices
import Derived.Deep.Slices
import Derived.SizedLaws
namespace Go.Proofs.YtfbfmhfceemkgaaDoor
open Go.RowKit Go.ChangeShapes Go.WideShapes
set_option linter.unusedVariables false
theorem mvOf_any (x : Int) (w : World) : Calls Tryd.prog 8 #[.int .u8 x] w fun e w' => e = .returned (.int .u8 (mvOf x)) ∧ w' = w := by
  have HT : Hid (mvOf x = if x = 3 then 1 else if x = 8 then 4 else if x = 5 then 2 else if x = 10 then 5 else if x = 11 then 6 else 0) := hide rfl
  go_enter Tryd.func8, Tryd.ntmps8
  go_wp2
  all_goals go_ret
  all_goals exact ⟨ret_u8 (by rw [HT.out]; simp_all), rfl⟩
/-- small numbers in memory -/
def IsB (w : World) (a : Option Addr) (len cap : Nat) (l : List Int) : Prop :=
  l.length = len ∧ len ≤ cap ∧ cap ≤ maxLen ∧ (∀ i, i < len → ∃ b off, a = some ⟨b, off, none⟩ ∧ b < w.heap.size ∧ w.cell? ⟨b, off + i, none⟩ = some (.int .u8 (l.getD i 0)))
theorem isB_nil (w : World) : IsB w none 0 0 [] := ⟨rfl, Nat.le_refl _, Nat.zero_le _, fun i hi => by omega⟩
theorem IsB.below {w w' : World} {a : Option Addr} {len cap : Nat} {l : List Int} (h : IsB w a len cap l) (hb : Below w.heap.size w w') : IsB w' a len cap l := by
  refine ⟨h.1, h.2.1, h.2.2.1, fun i hi => ?_⟩
  obtain ⟨b, off, e, hlt, h0⟩ := h.2.2.2 i hi
  exact ⟨b, off, e, Nat.lt_of_lt_of_le hlt hb.size, (World.cell?_of_block (hb.block b hlt)).trans h0⟩
theorem cells35 : Tryd.prog.cellsOf 35 = 1 := by kernel_rfl
theorem oadd0 (b off i : Nat) : (⟨b, off, none⟩ : Addr).add i = ⟨b, off + i, none⟩ := by
  by_cases hi : i = 0 <;> simp [Addr.add, hi]
theorem open_bytes22 {H : Type} {enc : TypeId × Value → H} {W : World} {base : Nat} {held : Bool} {fuel : Nat} {cs : List Value} {x : DataW H × List MemPlace} (h : DataW.trod enc Tryd.prog W base (fun _ => true) held fuel 22 cs = some x) (hlt : ∀ p ∈ x.2, p.block < W.heap.size) (hw : ∀ n ∈ x.1.weights Tryd.prog 22, n ≤ reachBytes) :
    ∃ a len cap l, cs = [.slice a len cap] ∧ IsB W a len cap l ∧ len * 0 ≤ 140737488355328 := by
  rcases open_ints Tryd.underlying22 Tryd.underlying35 cells35 h with ⟨rfl, _⟩ | ⟨a, len, cap, zs, rfl, _, hl, hm, hz, rfl, hcell, hwz⟩
  · exact ⟨none, 0, 0, [], rfl, isB_nil W, by omega⟩
  · simp only [if_true] at hz
    refine ⟨some a, len, cap, zs.take len, rfl, ⟨by rw [List.length_take]; omega, hl, hm, fun i hi => ?_⟩, by omega⟩
    obtain ⟨b, off, spot⟩ := a
    have hspot : spot = none := by
      have := World.cell?_spot (hcell 0 (by omega))
      simpa [Addr.add] using this
    subst hspot
    refine ⟨b, off, rfl, hlt (.cell b off) (MemPlace.mem_row.2 ⟨0, by omega, by simp⟩), ?_⟩
    have hc := hcell i (by omega)
    rw [oadd0] at hc
    rw [hc]
    have hi' : i < zs.length := by omega
    simp [List.getD_eq_getElem?_getD, hi, List.getElem?_eq_getElem hi']
/-- a saga is stored beside the shipments -/
theorem IsH.put4 {w : World} {a : Option Addr} {len cap g : Nat} {l : List Sh} (h : IsH w a len cap l) (hn : NewA (g + 1) a) (y : Pl.Sg) : IsH (Pl.put4 w g y) a len cap l := by
  refine ⟨h.1, h.2.1, h.2.2.1, h.2.2.2.1, fun i hi => ?_, h.2.2.2.2.2⟩
  obtain ⟨b, off, e, hlt, h0⟩ := h.2.2.2.2.1 i hi
  have hb : b ≠ g := by have := hn b off e; omega
  refine ⟨b, off, e, by unfold Pl.put4; simpa using hlt, h0.block fun j => World.cell?_of_block ?_⟩
  unfold Pl.put4
  show (World.setCell _ _ _).heap[b]? = _
  rw [Below.heap_setCell _ _ _ _ hb, Below.heap_setCell _ _ _ _ hb, Below.heap_setCell _ _ _ _ hb, Below.heap_setCell _ _ _ _ hb]
theorem Tab.put4 {w : World} {g : Nat} (h : Tab w) (hg : 0 < g) (y : Pl.Sg) : Tab (Pl.put4 w g y) :=
  h.below hg (Pl.put4_below (Below.refl g w) (Nat.le_refl _) y)
theorem padv_at {s s' : Pl.Sg} {d : Bool} {er : Int} (hR : Pl.advR s d = (s', er)) (hk : u8B s.k) (w : World) (hT : Tab w) : Calls Tryd.prog 11 #[Pl.vg s, .bool d] w fun e w' => e = .returned (.tuple #[Pl.vg s', .int .i64 er]) ∧ Hid (Below w.heap.size w w' ∧ Tab w') := by
  have := Pl.adv_any s d hk w
  rw [hR] at this
  exact this.mono fun e w' h => ⟨h.1, h.2, hT.below' h.2⟩
theorem pnext_at {s : Pl.Sg} {x y : Int} {b : Bool} (hR : Pl.nextR s = ⟨x, b, y⟩) (hk : u8B s.k) (w : World) (hT : Tab w) : Calls Tryd.prog 5 #[Pl.vg s] w fun e w' => e = .returned (.tuple #[.int .u8 x, .bool b, .int .i64 y]) ∧ Hid (Below w.heap.size w w' ∧ Tab w') := by
  have := Pl.next_any s hk w
  rw [hR] at this
  exact this.mono fun e w' h => ⟨h.1, h.2, hT.below' h.2⟩
end Go.Proofs.YtfbfmhfceemkgaaDoor
