/- the walk of MoneySums -/
import Derived.Test.YtjhlilamnbbkbaaDoorR2
namespace Go.Proofs.YtjhlilamnbbkbaaDoor
open Go.RowKit Go.Shelf Go.Sort Go.Lib
set_option maxHeartbeats 1000000 in
/-- ladinglaw01.MoneySums -/
theorem sums_any (a b : Int) (s : Option Addr) (len cap : Nat) (l : List Int) (w : World) (htab : POW w) (ha : In64 a) (hb : In64 b) (hl : IsI w s len cap l) (_hlen : len ≤ 17592186044416) :
    Calls Tryd.prog 3 #[.int .i64 a, .int .i64 b, .slice s len cap] w fun e w' => e = .returned (.bool true) ∧ Below w.heap.size w w' := by
  have HT := hide htab
  clear htab
  have A1 := hide (fun W => add_any a b W ha hb)
  have A2 := hide (fun W => refAdd_any a b W ha hb)
  have B1 := hide (fun W => sub_any a b W ha hb)
  have B2 := hide (fun W => refSub_any a b W ha hb)
  have M1 := hide (fun W => mul_any a b W ha hb)
  have M2 := hide (fun W => refMul_any a b W ha hb)
  have S1 := hide (fun W (h : Below w.heap.size w W) => sum_any s len cap l W (hl.below h))
  have S2 := hide (fun W (h : Below w.heap.size w W) => refSum_any s len cap l W (hl.below h))
  clear hl _hlen ha hb
  generalize num (a + b) = y1 at *
  generalize err (a + b) = y2 at *
  generalize num (a - b) = y3 at *
  generalize err (a - b) = y4 at *
  generalize num (a * b) = y5 at *
  generalize err (a * b) = y6 at *
  generalize (sums l).1 = y7 at *
  generalize (sums l).2 = y8 at *
  have t1 : (y1 == y1) = true := by simp
  have t2 : (y2 == y2) = true := by simp
  have t3 : (y3 == y3) = true := by simp
  have t4 : (y4 == y4) = true := by simp
  have t5 : (y5 == y5) = true := by simp
  have t6 : (y6 == y6) = true := by simp
  have t7 : (y7 == y7) = true := by simp
  have t8 : (y8 == y8) = true := by simp
  go_enter Tryd.func3, Tryd.ntmps3
  go_wp2_with fail
  refine (A1.out _).mono ?_
  rintro e w1 ⟨rfl, h1⟩
  go_wp2_with fail
  refine (A2.out _).mono ?_
  rintro e w' ⟨rfl, rfl⟩
  go_wp2_with fail
  refine (B1.out _).mono ?_
  rintro e w2 ⟨rfl, h2⟩
  replace h1 := h1.trans (h2.mono h1.size)
  clear h2
  go_wp2_with fail
  refine (B2.out _).mono ?_
  rintro e w' ⟨rfl, rfl⟩
  go_wp2_with fail
  refine (M1.out _).mono ?_
  rintro e w' ⟨rfl, rfl⟩
  go_wp2_with fail
  refine (M2.out _).mono ?_
  rintro e w' ⟨rfl, rfl⟩
  go_wp2_with fail
  refine (S1.out _ h1).mono ?_
  rintro e w' ⟨rfl, rfl⟩
  go_wp2_with fail
  refine (S2.out _ h1).mono ?_
  rintro e w' ⟨rfl, rfl⟩
  go_wp2_with fail
  refine (lives_any _ (POW.below HT.out h1)).mono ?_
  rintro e w3 ⟨rfl, h2⟩
  replace h1 := h1.trans (h2.mono h1.size)
  clear h2
  go_wp2
  go_ret
  exact ⟨rfl, h1⟩
end Go.Proofs.YtjhlilamnbbkbaaDoor
