/- money.Total comes to an end -/
import Derived.Test.YtffhkljegopjmaaDoorKT
import Derived.Test.YtffhkljegopjmaaDoorGX
import Derived.OwnWalk
namespace Go.Proofs.YtffhkljegopjmaaDoor
open Go.RowKit
set_option maxRecDepth 40000
def zer (n : Nat) : List Value := List.replicate n (.int .i64 0)
theorem zer_made (n : Nat) : madeCells #[Value.int .i64 0] n = (zer n).toArray := by
  apply Array.ext
  · simp [madeCells, zer]
  · intro i h1 h2
    simp [madeCells, zer, Nat.mod_one]
theorem run_mk0 (W : World) (n : Nat) (hb : n ≤ 35184372088832) :
    (Instr.makeSlice 57 (.int .i64 0) (.int .i64 (n : Int))).run Tryd.prog W = .ok (.slice (some ⟨W.heap.size, 0, none⟩) 0 n) (W.alloc (.cells (zer n).toArray 2)) := by
  obtain ⟨i0, hi, hz0, hz1, hz2⟩ := Lg.info_partsC Lg.info2
  have hr := run_make (P := Tryd.prog) W 57 2 i0 _ Tryd.underlying57 hi hz0 .i64 .i64 0 (n : Int) (by omega) (by omega) (by rw [hz2]; omega) (by omega)
  rw [hr, hz1]
  simp only [Int.toNat_natCast, Nat.mul_one, Int.toNat_zero]
  rw [show (Value.int IntKind.i64 0).cells = #[Value.int .i64 0] from rfl, zer_made]
theorem prod_bd {q u : Int} (h : 1 ≤ q ∧ q ≤ 1048576 ∧ 0 ≤ u ∧ u ≤ 1099511627776) : 0 ≤ q * u ∧ q * u ≤ 1152921504606846976 := by
  refine ⟨Int.mul_nonneg (by omega) (by omega), ?_⟩
  have := Int.mul_le_mul h.2.1 h.2.2.2 h.2.2.1 (by omega : (0 : Int) ≤ 1048576)
  omega
set_option maxHeartbeats 4000000 in
theorem total_any (a : Option Addr) (len cap : Nat) (xs : List Ln) (w : World) (h : IsL w a len cap xs) : Calls Tryd.prog 6 #[.slice a len cap] w fun e w' => Below w.heap.size w w' ∧ ∃ t r : Int, e = .returned (.tuple #[.int .i64 t, .int .i64 r]) := by
  have HX := hide h
  have hcap := h.2.1
  have hcm : cap ≤ 9223372036854775807 := h.2.2.1
  have HB0 := hide (Below.refl w.heap.size w)
  by_cases h16 : 16 < len
  · have t1 : (16 : Int) < (len : Int) := by omega
    clear h
    go_enter Tryd.func6, Tryd.ntmps6
    go_wp2
    go_ret2
    exact ⟨HB0.out, _, _, rfl⟩
  · have t1 : ¬ (16 : Int) < (len : Int) := by omega
    have hmk := fun W => run_mk0 W len (by omega)
    have HO0 : Hid ((w.alloc (.cells (zer len).toArray 2)).ownsRow w.heap.size 2 1 (.slice (some ⟨w.heap.size, 0, none⟩) 0 len) 0 []) := hide (World.ownsRow_made w _ len (Nat.le_refl _) (by unfold maxLen; omega) (by simp [zer]))
    have HB1 : Hid (Below w.heap.size w (w.alloc (.cells (zer len).toArray 2))) := hide ((Below.refl _ _).alloc (Nat.le_refl _) _)
    clear h
    go_enter Tryd.func6, Tryd.ntmps6
    go_wp2_with fail
    generalize w.alloc (.cells (zer len).toArray 2) = w1 at *
    clear hmk
    go_loopw [4, 15] (fun v i wr => ∃ (k : Nat) (ys : List Int), k ≤ len ∧ i = .int .i64 k ∧ Hid (ys.length = k ∧ (∀ y ∈ ys, -9223372036854775808 ≤ y ∧ y ≤ 9223372036854775807) ∧ wr.ownsRow w.heap.size 2 1 v ys.length (Lg.iv ys) ∧ Below w.heap.size w wr)) (fun _ i _ => len - (intOf i).toNat)
    case atStart => exact ⟨0, [], by omega, rfl, hide ⟨rfl, by simp, by simpa [Lg.iv] using HO0.out, HB1.out⟩⟩
    case round =>
      obtain ⟨k, ys, hk, rfl, HW⟩ := hrel
      clear HO0 HB1 HB0
      by_cases hkl : k < len
      · obtain ⟨bs, off, rfl, hbs, y0⟩ := HX.out.2.2.2.1 k hkl
        have HY := hide (y0.below hbs HW.out.2.2.2)
        clear y0
        generalize xs.getD k Ln0 = y at HY
        obtain ⟨y1, y2, y3, y4⟩ := y
        obtain ⟨d1, d2, d3, d4⟩ := HY.out
        dsimp only at d1 d2 d3 d4
        have hkI : (k : Int) < (len : Int) := by omega
        have hk0 : (0 : Int) ≤ (k : Int) := by omega
        have hwk : IntKind.i64.wrap ((k : Int) + 1) = (k : Int) + 1 := wrap64 (by omega) (by omega)
        have HBA : Hid (Below w.heap.size w (wr.alloc (.cells #[.int .i64 y1, .int .i64 y2, .int .i64 y3, .int .i64 y4] 41))) := hide (HW.out.2.2.2.alloc HW.out.2.2.2.size _)
        by_cases q1 : y3 < 1
        · go_wp2
          go_ret2
          exact ⟨HBA.out, _, _, rfl⟩
        by_cases q2 : 1048576 < y3
        · go_wp2
          go_ret2
          exact ⟨HBA.out, _, _, rfl⟩
        by_cases q3 : y4 < 0
        · go_wp2
          go_ret2
          exact ⟨HBA.out, _, _, rfl⟩
        by_cases q4 : 1099511627776 < y4
        · go_wp2
          go_ret2
          exact ⟨HBA.out, _, _, rfl⟩
        obtain ⟨p, hp⟩ : ∃ p, p = y3 * y4 := ⟨_, rfl⟩
        have hpb := prod_bd (q := y3) (u := y4) (by omega)
        have hwp : IntKind.i64.wrap (y3 * y4) = p := by rw [hp]; exact wrap64 (by omega) (by omega)
        have HPB : Hid (0 ≤ p ∧ p ≤ 1152921504606846976) := hide (hp ▸ hpb)
        have HO5 : Hid (((wr.alloc (.cells #[.int .i64 y1, .int .i64 y2, .int .i64 y3, .int .i64 y4] 41)).alloc (.cells #[.int .i64 p] 2)).ownsRow w.heap.size 2 1 u4 ys.length (Lg.iv ys)) := hide (World.ownsRow.alloc (World.ownsRow.alloc HW.out.2.2.1 _) _)
        have HB5 : Hid (Below w.heap.size w ((wr.alloc (.cells #[.int .i64 y1, .int .i64 y2, .int .i64 y3, .int .i64 y4] 41)).alloc (.cells #[.int .i64 p] 2))) := hide ((HW.out.2.2.2.alloc HW.out.2.2.2.size _).alloc (by have := HW.out.2.2.2.size; simp; omega) _)
        have HQC := hide (Lg.cells1 (W := wr.alloc (.cells #[.int .i64 y1, .int .i64 y2, .int .i64 y3, .int .i64 y4] 41)) p)
        rw [show (wr.alloc (.cells #[.int .i64 y1, .int .i64 y2, .int .i64 y3, .int .i64 y4] 41)).heap.size = wr.heap.size + 1 by simp] at HQC
        have HLL : Hid (ys.length + 1 ≤ 10000) := hide (by have := HW.out.1; omega)
        clear hp hpb
        go_wp2_with (at_builtin; refine Lg.wpList_ints rfl _ _ rfl w.heap.size u4 ys rfl HO5.out (wr.heap.size + 1) [p] 1 rfl rfl HQC.out HLL.out HB5.out.size ?_; intro v' w' HN)
        go_roundw
        case rel => exact ⟨k + 1, ys ++ [p], by omega, by simp, hide ⟨by simp [HW.out.1], fun y hy => by
          rcases List.mem_append.1 hy with hy | hy
          · exact HW.out.2.1 y hy
          · have := HPB.out; rw [List.mem_singleton.1 hy]; omega, HN.out.1, HB5.out.trans HN.out.2⟩⟩
        case measure => simp [intOf]; omega
      · obtain rfl : k = len := by omega
        have hkI : ¬ (k : Int) < (k : Int) := by omega
        obtain ⟨ai, ci, hv, hI⟩ := Lg.own_isI HW.out.2.1 HW.out.2.2.1
        subst hv
        have HSU := hide (Lg.sumUp_any ai _ ci _ wr hI (by have := HW.out.1; omega))
        have HBW := hide HW.out.2.2.2
        clear hI HW
        generalize ys.length = m at *
        go_wp2_with fail
        refine HSU.out.mono ?_
        rintro e w3 ⟨rfl, hw⟩
        obtain rfl : wr = w3 := hw.symm
        go_wp2
        go_ret2
        exact ⟨HBW.out, _, _, rfl⟩
end Go.Proofs.YtffhkljegopjmaaDoor
