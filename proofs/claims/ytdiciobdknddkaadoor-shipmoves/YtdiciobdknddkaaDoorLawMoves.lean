/- ShipMoves, walked -/
import Derived.Test.YtdiciobdknddkaaDoorJ
namespace Go.Proofs.YtdiciobdknddkaaDoor
open Go.RowKit
theorem movesWalk (s m : Int) (w : World) (hT : Tab w) (hs : u8B s) (hm : u8B m) : Calls Tryd.prog 3 #[.int .u8 s, .int .u8 m] w fun e w' => e = .returned (.bool true) ∧ Below w.heap.size w w' := by
  have HN := hide (fun W (t : Tab W) => next_any s m hs hm W t)
  have HRN := hide (rnext_any s m)
  have HA := hide (as_any m)
  have HRA := hide (ras_any m)
  have HE := hide (fun W (t : Tab W) => ends_any s hs W t)
  have HRE := hide (ren_any s)
  have HL := hide (fun W (t : Tab W) => lives_any W t)
  have HT := hide hT
  clear hT hs hm
  generalize nxR s m = R at *
  obtain ⟨r1, r2⟩ := R
  generalize asB m = b1 at *
  generalize enB s = b2 at *
  dsimp only at *
  go_enter Tryd.func3, Tryd.ntmps3
  go_wp2_with (first | (go_at_call 8; refine (HN.out _ HT.out).mono ?_; rintro e w' ⟨rfl, he'⟩; obtain rfl := he'.symm; clear he') | (go_at_call 9; refine (HRN.out _).mono ?_; rintro e w' ⟨rfl, he'⟩; obtain rfl := he'.symm; clear he') | (go_at_call 10; refine (HL.out _ HT.out).mono ?_; rintro e w1 ⟨rfl, HB⟩) | (go_at_call 11; refine (HA.out _).mono ?_; rintro e w' ⟨rfl, he'⟩; obtain rfl := he'.symm; clear he') | (go_at_call 12; refine (HRA.out _).mono ?_; rintro e w' ⟨rfl, he'⟩; obtain rfl := he'.symm; clear he') | (go_at_call 13; refine (HE.out _ (HT.out.below' HB)).mono ?_; rintro e w' ⟨rfl, he'⟩; obtain rfl := he'.symm; clear he') | (go_at_call 14; refine (HRE.out _).mono ?_; rintro e w' ⟨rfl, he'⟩; obtain rfl := he'.symm; clear he'))
  go_ret
  exact ⟨ret_bool (by cases b1 <;> cases b2 <;> rfl), HB⟩
end Go.Proofs.YtdiciobdknddkaaDoor
