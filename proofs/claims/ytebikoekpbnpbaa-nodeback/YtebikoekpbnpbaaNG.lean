/- Find; clones -/
import Derived.Test.YtebikoekpbnpbaaNF
namespace Go.Proofs.Ytebikoekpbnpbaa
open Go.RowKit Cod
set_option maxRecDepth 40000
set_option linter.unusedVariables false
set_option linter.unusedSimpArgs false
theorem check_kind {p : Pg} (h : checkE p = 0) : leafB p = true ∨ innerB p = true := by
  unfold checkE at h
  split at h
  · assumption
  · cases h
theorem check_srt {p : Pg} (h : checkE p = 0) : SrtK p.keys := by
  rcases check_kind h with h | h
  · unfold leafB keysB at h
    simp only [Bool.and_eq_true] at h
    exact rise_srt h.1.2.1
  · unfold innerB keysB at h
    simp only [Bool.and_eq_true] at h
    exact rise_srt h.1.2.1
/-- what Find answers -/
def findR (p : Pg) (key : List Nat) : Nat × Bool × Int := if checkE p = 0 then (lowK p.keys key + (if hasK p.keys key = true ∧ p.leaf = false then 1 else 0), hasK p.keys key, 0) else (0, false, checkE p)
set_option maxHeartbeats 2000000 in
theorem find_any (v : Pv) (p : Pg) (xa : Option Addr) (xn xc : Nat) (key : List Nat) (w : World) (h : IsG w v p) (hc : FewP v) (hk : IsB w xa xn xc key) :
    Calls Try.prog 23 #[.agg (pgc p.leaf v), .slice xa xn xc] w fun e w' => e = .returned (.tuple #[.int .i64 ((findR p key).1 : Nat), .bool (findR p key).2.1, .int .i64 (findR p key).2.2]) ∧ Below w.heap.size w w' := by
  have HB0 : Hid (Below w.heap.size w (w.alloc (.cells (pgc p.leaf v) 25))) := hide ((Below.refl _ w).alloc (Nat.le_refl _) _)
  have HX : Hid (BlkG (w.alloc (.cells (pgc p.leaf v) 25)) w.heap.size p.leaf v) := hide (heap_alloc_new _ _)
  have HCK := hide (check_any v p _ (h.below HB0.out) hc)
  have HPL : Hid (checkE p = 0 → ∀ W : World, Below w.heap.size w W → Calls Try.prog 46 #[.slice v.ka v.kn v.kc, .slice xa xn xc] W fun e w' => e = .returned (.tuple #[.int .i64 (lowK p.keys key : Nat), .bool (hasK p.keys key)]) ∧ Below W.heap.size W w') := hide (fun h0 W hW => place_any v.ka v.kn v.kc p.keys xa xn xc key W (h.keys.below hW) (hk.below hW) (check_srt h0) hc.1)
  have HLK : Hid (lowK p.keys key ≤ 2000000) := hide (Nat.le_trans (lowK_le _ _) (by rw [h.keys.1]; exact hc.1))
  have HR : Hid (findR p key = if checkE p = 0 then (lowK p.keys key + (if hasK p.keys key = true ∧ p.leaf = false then 1 else 0), hasK p.keys key, 0) else (0, false, checkE p)) := hide rfl
  generalize findR p key = R at *
  obtain ⟨lf, hlf⟩ : ∃ lf, p.leaf = lf := ⟨_, rfl⟩
  rw [hlf] at HB0 HX HCK HR
  rw [hlf]
  clear hlf h hc hk
  generalize checkE p = E at *
  generalize lowK p.keys key = lo at *
  generalize hasK p.keys key = is at *
  obtain ⟨ka, kn, kc, va, vn, vc, ia, inn, ic⟩ := v
  try dsimp only at HB0 HX HCK HPL
  try dsimp only
  obtain ⟨q0, q1, q2, q3⟩ := HX.out.cells
  try dsimp only at q0 q1 q2 q3
  go_enter Try.func23, Try.ntmps23
  go_wp2_with fail
  generalize hV0 : (w.alloc (.cells #[.bool lf, .slice ka kn kc, .slice va vn vc, .slice ia inn ic] 25)) = V0 at *
  refine HCK.out.mono ?_
  rintro e w1 ⟨rfl, hb1⟩
  have HB1 : Hid (Below w.heap.size w w1) := hide (HB0.out.trans (hb1.mono HB0.out.size))
  have HX1 : Hid (w1.heap[w.heap.size]? = some (.cells #[.bool lf, .slice ka kn kc, .slice va vn vc, .slice ia inn ic] 25 (0, 0))) := hide ((hb1.block _ (heap_ltN HX.out)).trans HX.out)
  clear hb1 HCK q0 q1 q2 q3 hV0
  have q0 : w1.cell? ⟨w.heap.size, 0, none⟩ = some (.bool lf) := cell_blkN HX1.out rfl
  have q1 : w1.cell? ⟨w.heap.size, 1, none⟩ = some (.slice ka kn kc) := cell_blkN HX1.out rfl
  by_cases hE : E = 0
  · subst hE
    have HP2 := hide (HPL.out rfl w1 HB1.out)
    clear HPL
    go_wp2_with fail
    refine HP2.out.mono ?_
    rintro e w2 ⟨rfl, hb2⟩
    have HB2 : Hid (Below w.heap.size w w2) := hide (HB1.out.trans (hb2.mono HB1.out.size))
    have HX2 : Hid (w2.heap[w.heap.size]? = some (.cells #[.bool lf, .slice ka kn kc, .slice va vn vc, .slice ia inn ic] 25 (0, 0))) := hide ((hb2.block _ (heap_ltN HX1.out)).trans HX1.out)
    clear hb2 HP2 q0 q1
    have q0 : w2.cell? ⟨w.heap.size, 0, none⟩ = some (.bool lf) := cell_blkN HX2.out rfl
    have hw : IntKind.i64.wrap ((lo : Int) + 1) = (lo : Int) + 1 := wrapN (by omega) (by have := HLK.out; omega)
    cases is <;> cases lf
    case false.false =>
      have HE : Hid (R = (lo, false, 0)) := hide (by rw [HR.out]; simp)
      go_wp2
      go_ret3
      exact ⟨by rw [HE.out]; rfl, HB2.out⟩
    case false.true =>
      have HE : Hid (R = (lo, false, 0)) := hide (by rw [HR.out]; simp)
      go_wp2
      go_ret3
      exact ⟨by rw [HE.out]; rfl, HB2.out⟩
    case true.false =>
      have HE : Hid (R = (lo + 1, true, 0)) := hide (by rw [HR.out]; simp)
      go_wp2
      go_ret3
      exact ⟨by rw [HE.out]; rfl, HB2.out⟩
    case true.true =>
      have HE : Hid (R = (lo, true, 0)) := hide (by rw [HR.out]; simp)
      go_wp2
      go_ret3
      exact ⟨by rw [HE.out]; rfl, HB2.out⟩
  · have hE2 : (E == 0) = false := by simpa using hE
    have hE4 : (E != 0) = true := by simpa using hE
    have HE : Hid (R = (0, false, E)) := hide (by rw [HR.out, if_neg hE])
    go_wp2
    go_ret3
    exact ⟨by rw [HE.out]; rfl, HB1.out⟩
/-- why a page is no right leaf -/
def leafE (p : Pg) : Int := if checkE p = 0 then (if p.leaf = true then 0 else 15) else checkE p
set_option maxHeartbeats 2000000 in
theorem checkLeaf_any (v : Pv) (p : Pg) (w : World) (h : IsG w v p) (hc : FewP v) : Calls Try.prog 48 #[.agg (pgc p.leaf v)] w fun e w' => e = .returned (.int .i64 (leafE p)) ∧ Below w.heap.size w w' := by
  have HB0 : Hid (Below w.heap.size w (w.alloc (.cells (pgc p.leaf v) 25))) := hide ((Below.refl _ w).alloc (Nat.le_refl _) _)
  have HX : Hid (BlkG (w.alloc (.cells (pgc p.leaf v) 25)) w.heap.size p.leaf v) := hide (heap_alloc_new _ _)
  have HCK := hide (check_any v p _ (h.below HB0.out) hc)
  have HR : Hid (leafE p = if checkE p = 0 then (if p.leaf = true then 0 else 15) else checkE p) := hide rfl
  generalize leafE p = R at *
  obtain ⟨lf, hlf⟩ : ∃ lf, p.leaf = lf := ⟨_, rfl⟩
  rw [hlf] at HB0 HX HCK HR
  rw [hlf]
  clear hlf h hc
  generalize checkE p = E at *
  obtain ⟨ka, kn, kc, va, vn, vc, ia, inn, ic⟩ := v
  try dsimp only at HB0 HX HCK
  try dsimp only
  obtain ⟨q0, q1, q2, q3⟩ := HX.out.cells
  try dsimp only at q0 q1 q2 q3
  go_enter Try.func48, Try.ntmps48
  go_wp2_with fail
  generalize hV0 : (w.alloc (.cells #[.bool lf, .slice ka kn kc, .slice va vn vc, .slice ia inn ic] 25)) = V0 at *
  refine HCK.out.mono ?_
  rintro e w1 ⟨rfl, hb1⟩
  have HB1 : Hid (Below w.heap.size w w1) := hide (HB0.out.trans (hb1.mono HB0.out.size))
  have q4 : w1.cell? ⟨w.heap.size, 0, none⟩ = some (.bool lf) := cell_blkN ((hb1.block _ (heap_ltN HX.out)).trans HX.out) rfl
  clear hb1 HCK q0 q1 q2 q3 hV0
  by_cases hE : E = 0
  · subst hE
    cases lf with
    | true =>
      have HE : Hid (R = 0) := hide (by rw [HR.out]; simp)
      go_wp2
      go_ret
      exact ⟨by rw [HE.out]; rfl, HB1.out⟩
    | false =>
      have HE : Hid (R = 15) := hide (by rw [HR.out]; simp)
      go_wp2
      go_ret
      exact ⟨by rw [HE.out]; rfl, HB1.out⟩
  · have hE2 : (E == 0) = false := by simpa using hE
    have hE4 : (E != 0) = true := by simpa using hE
    have HE : Hid (R = E) := hide (by rw [HR.out, if_neg hE])
    go_wp2
    go_ret
    exact ⟨by rw [HE.out]; rfl, HB1.out⟩
end Go.Proofs.Ytebikoekpbnpbaa
