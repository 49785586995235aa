/- the walk of MoneyTotals -/
import Derived.Test.YtjhlilamnbbkbaaDoorL2
namespace Go.Proofs.YtjhlilamnbbkbaaDoor
open Go.RowKit Go.Shelf Go.Sort Go.Lib
theorem IsL.below {w w1 : World} {a : Option Addr} {len cap : Nat} {l : List Ln} (h : IsL w a len cap l) (hb : Below w.heap.size w w1) : IsL w1 a len cap l := by
  obtain ⟨h1, h2, h3, h4, h5⟩ := h
  refine ⟨h1, h2, h3, h4, ?_⟩
  rcases h5 with h5 | ⟨b, off, rfl, hlt, hc⟩
  · exact .inl h5
  · refine .inr ⟨b, off, rfl, Nat.lt_of_lt_of_le hlt hb.size, fun i hi => ?_⟩
    obtain ⟨c0, c1, c2, c3⟩ := hc i hi
    exact ⟨(hb.cell (p := ⟨b, off + i * 4, none⟩) hlt).trans c0, (hb.cell (p := ⟨b, off + i * 4 + 1, none⟩) hlt).trans c1, (hb.cell (p := ⟨b, off + i * 4 + 2, none⟩) hlt).trans c2, (hb.cell (p := ⟨b, off + i * 4 + 3, none⟩) hlt).trans c3⟩
set_option maxHeartbeats 1000000 in
/-- ladinglaw01.MoneyTotals -/
theorem totals_any (s : Option Addr) (len cap : Nat) (l : List Ln) (w : World) (htab : POW w) (hl : IsL w s len cap l) :
    Calls Tryd.prog 4 #[.slice s len cap] w fun e w' => e = .returned (.bool true) ∧ Below w.heap.size w w' := by
  have HT := hide htab
  clear htab
  have S1 := hide (total_any s len cap l w hl)
  have S2 := hide (fun W (h : Below w.heap.size w W) => refTotal_any s len cap l W (hl.below h))
  clear hl
  generalize (tot l).1 = y1 at *
  generalize (tot l).2 = y2 at *
  have t1 : (y1 == y1) = true := by simp
  have t2 : (y2 == y2) = true := by simp
  go_enter Tryd.func4, Tryd.ntmps4
  go_wp2_with fail
  refine S1.out.mono ?_
  rintro e w1 ⟨rfl, h1⟩
  go_wp2_with fail
  refine (S2.out _ h1).mono ?_
  rintro e w2 ⟨rfl, h2⟩
  replace h1 := h1.trans (h2.mono h1.size)
  clear h2
  go_wp2_with fail
  refine (lives_any _ (POW.below HT.out h1)).mono ?_
  rintro e w3 ⟨rfl, h2⟩
  replace h1 := h1.trans (h2.mono h1.size)
  clear h2
  go_wp2
  go_ret
  exact ⟨rfl, h1⟩
end Go.Proofs.YtjhlilamnbbkbaaDoor
