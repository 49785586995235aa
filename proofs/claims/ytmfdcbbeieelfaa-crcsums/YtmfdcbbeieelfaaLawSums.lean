/- the walk of CrcSums -/
import Derived.Test.YtmfdcbbeieelfaaH
namespace Go.Proofs.Ytmfdcbbeieelfaa
open Go.RowKit
set_option maxHeartbeats 400000 in
theorem crcSums.lawWalk (a0 : Int) (a : Option Addr) (len cap : Nat) (l : List Nat) (w : World) (wa : (Lit.int .u32 a0).wf = true) (h : IsB w a len cap l) (hr : cap ≤ 140737488351232) :
    Calls Try.prog 3 #[.int .u32 a0, .slice a len cap] w fun e w' => e = .returned (.bool true) ∧ Below w.heap.size w w' := by
  have ba := bounds_u32 wa
  obtain ⟨s, rfl⟩ := Int.eq_ofNat_of_zero_le ba.1
  have hs : s < 4294967296 := by omega
  have hcl : len ≤ cap := h.2.1
  have hx := h.2.2.2.1
  clear ba wa
  go_enter Try.func3, Try.ntmps3
  go_wp2_with (at_builtin; refine wpList_clone rfl _ _ rfl w.heap.size _ 0 [] rfl (owns_empty w _ (Nat.le_refl _)) a len cap l rfl ?hB ?hb ?hbase w.heap.size w ?bel (Nat.le_refl _) ?_)
  case hB => exact h.below ((Below.refl _ _).alloc (Nat.le_refl _) _)
  case hb => omega
  case hbase => simp
  case bel => exact (Below.refl _ _).alloc (Nat.le_refl _) _
  intro v w1 hown hb1
  have hown' : w1.ownsRow w.heap.size 5 1 v len (bv l) := by simpa using hown
  obtain ⟨a1, c1, hv, hB1⟩ := owns_isB hown' hx
  subst hv
  clear hown hown'
  go_wp2_with fail
  refine (lives_any _).mono ?_
  rintro e w2 ⟨rfl, hb2⟩
  have h2 : Below w.heap.size w w2 := hb1.trans (hb2.mono hb1.size)
  have hB2 := hB1.below hb2
  clear hb2 hB1 hb1
  go_wp2_with fail
  refine (of_any _ _ _ l _ hB2).mono ?_
  rintro e w3 ⟨rfl, hb3⟩
  have h3 : Below w.heap.size w w3 := h2.trans (hb3.mono h2.size)
  have hB3 := hB2.below hb3
  clear hb3 hB2 h2
  go_wp2_with fail
  refine (refOf_any _ _ _ l _ (h.below h3)).mono ?_
  rintro e w' ⟨rfl, rfl⟩
  go_wp2_with fail
  refine (update_any s hs _ _ _ l _ hB3).mono ?_
  rintro e w4 ⟨rfl, hb4⟩
  have h4 : Below w.heap.size w w4 := h3.trans (hb4.mono h3.size)
  have hB4 := hB3.below hb4
  clear hb4 hB3 h3
  go_wp2_with fail
  refine (refUpdate_any s hs _ _ _ l _ (h.below h4)).mono ?_
  rintro e w' ⟨rfl, rfl⟩
  go_wp2_with fail
  refine (same_any _ _ _ _ _ _ l _ hB4 (h.below h4)).mono ?_
  rintro e w' ⟨rfl, rfl⟩
  go_wp2
  go_ret
  exact ⟨rfl, h4⟩
end Go.Proofs.Ytmfdcbbeieelfaa
