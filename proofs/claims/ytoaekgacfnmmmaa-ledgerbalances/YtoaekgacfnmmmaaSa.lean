/- the document's Same, of books without postings -/
import Derived.Test.YtoaekgacfnmmmaaZa
namespace Go.Proofs.Ytoaekgacfnmmmaa
open Go.RowKit
set_option maxHeartbeats 4000000 in
theorem same_any (a : Option Addr) (len cap : Nat) (P : List Py) (a' : Option Addr) (cap' : Nat) (w : World) (h : IsP w a len cap P) (h' : IsP w a' len cap' P) (hlen : len ≤ 100000) :
    Calls Try.prog 16 #[vb a len cap none 0 0, vb a' len cap' none 0 0] w fun e w' => Below w.heap.size w w' ∧ e = .returned (.bool true) := by
  have HP := hide h
  have HQ := hide h'
  have HL := hide hlen
  clear h h' hlen
  go_enter Try.func16, Try.ntmps16
  refine wp_seq_k (fun K0 hK0 => ?_)
  have HK0 := hide hK0
  clear hK0
  go_wp2
  generalize hW0 : (w.alloc (.cells #[.slice a len cap, .slice none 0 0] 25)).alloc (.cells #[.slice a' len cap', .slice none 0 0] 25) = W0
  have HB0 : Hid (Below w.heap.size w W0) := hide (hW0 ▸ ((Below.refl _ w).alloc (Nat.le_refl _) _).alloc (by simp) _)
  have HX0 : Hid (BlkB W0 w.heap.size (.slice a len cap) (.slice none 0 0)) := hide (hW0 ▸ (Below.heap_alloc _ _ _ (by simp)).trans (heap_alloc_new _ _))
  have HY0 : Hid (BlkB W0 (w.heap.size + 1) (.slice a' len cap') (.slice none 0 0)) := hide (by
    rw [← hW0]
    have := heap_alloc_new (w.alloc (.cells #[.slice a len cap, .slice none 0 0] 25)) (.cells #[.slice a' len cap', .slice none 0 0] 25)
    rwa [show (w.alloc (.cells #[.slice a len cap, .slice none 0 0] 25)).heap.size = w.heap.size + 1 by simp] at this)
  clear hW0
  obtain ⟨x1, x2⟩ := HX0.out.cells
  obtain ⟨y1, y2⟩ := HY0.out.cells
  refine HK0.out _ _ ?_
  clear HK0
  go_wp2
  go_loopw [26] (fun i wr => ∃ k : Nat, k ≤ len ∧ i = .int .i64 k ∧ Hid (Below W0.heap.size W0 wr)) (fun i _ => len - (intOf i).toNat)
  case atStart => exact ⟨0, by omega, rfl, hide (Below.refl _ _)⟩
  case round =>
    obtain ⟨k, hk, rfl, HW⟩ := hrel
    have HX1 := hide (HX0.out.below (heap_lt HX0.out) HW.out)
    have HY1 := hide (HY0.out.below (heap_lt HY0.out) HW.out)
    clear x1 x2 y1 y2
    obtain ⟨x1, x2⟩ := HX1.out.cells
    obtain ⟨y1, y2⟩ := HY1.out.cells
    by_cases hkl : k < len
    · obtain ⟨bs, off, rfl, hbs, z0⟩ := HP.out.2.2.2.2.1 k hkl
      obtain ⟨bt, oft, rfl, hbt, z1⟩ := HQ.out.2.2.2.2.1 k hkl
      have HZ0 := hide ((z0.below hbs HB0.out).below (Nat.lt_of_lt_of_le hbs HB0.out.size) HW.out)
      have HZ1 := hide ((z1.below hbt HB0.out).below (Nat.lt_of_lt_of_le hbt HB0.out.size) HW.out)
      clear z0 z1
      generalize P.getD k Py0 = y at HZ0 HZ1
      obtain ⟨p1, p2, p3, p4⟩ := y
      obtain ⟨d1, d2, d3, d4⟩ := HZ0.out
      obtain ⟨e1, e2, e3, e4⟩ := HZ1.out
      dsimp only at d1 d2 d3 d4 e1 e2 e3 e4
      have u1 := equal30 p1 p2 p3 p4 p1 p2 p3 p4
      have u2 := eqg30
      have u3 : sameP ⟨p1, p2, p3, p4⟩ ⟨p1, p2, p3, p4⟩ = true := (sameP_iff _ _).2 rfl
      rw [u3] at u1
      clear u3
      have hkI : (k : Int) < (len : Int) := by omega
      have hk0 : (0 : Int) ≤ (k : Int) := by omega
      have hwk : IntKind.i64.wrap ((k : Int) + 1) = (k : Int) + 1 := wrap64 (by have := HL.out; omega) (by have := HL.out; omega)
      have HS := hide (show wr.drew.cell? ⟨w.heap.size, 0, none⟩ = some (.slice (some ⟨bs, off, none⟩) len cap) ∧ wr.drew.cell? ⟨w.heap.size + 1, 0, none⟩ = some (.slice (some ⟨bt, oft, none⟩) len cap') ∧ wr.drew.cell? ⟨bs, off + k * 4, none⟩ = some (.int .i64 p1) ∧ wr.drew.cell? ⟨bs, off + k * 4 + 1, none⟩ = some (.int .i64 p2) ∧ wr.drew.cell? ⟨bs, off + k * 4 + 2, none⟩ = some (.int .i64 p3) ∧ wr.drew.cell? ⟨bs, off + k * 4 + 3, none⟩ = some (.int .i64 p4) ∧ wr.drew.cell? ⟨bt, oft + k * 4, none⟩ = some (.int .i64 p1) ∧ wr.drew.cell? ⟨bt, oft + k * 4 + 1, none⟩ = some (.int .i64 p2) ∧ wr.drew.cell? ⟨bt, oft + k * 4 + 2, none⟩ = some (.int .i64 p3) ∧ wr.drew.cell? ⟨bt, oft + k * 4 + 3, none⟩ = some (.int .i64 p4) from ⟨x1, y1, d1, d2, d3, d4, e1, e2, e3, e4⟩)
      go_wp2_with fail
      go_region_held (fun W : World => (W.cell? ⟨w.heap.size, 0, none⟩ = some (.slice (some ⟨bs, off, none⟩) len cap) ∧ W.cell? ⟨w.heap.size + 1, 0, none⟩ = some (.slice (some ⟨bt, oft, none⟩) len cap') ∧ W.cell? ⟨bs, off + k * 4, none⟩ = some (.int .i64 p1) ∧ W.cell? ⟨bs, off + k * 4 + 1, none⟩ = some (.int .i64 p2) ∧ W.cell? ⟨bs, off + k * 4 + 2, none⟩ = some (.int .i64 p3) ∧ W.cell? ⟨bs, off + k * 4 + 3, none⟩ = some (.int .i64 p4) ∧ W.cell? ⟨bt, oft + k * 4, none⟩ = some (.int .i64 p1) ∧ W.cell? ⟨bt, oft + k * 4 + 1, none⟩ = some (.int .i64 p2) ∧ W.cell? ⟨bt, oft + k * 4 + 2, none⟩ = some (.int .i64 p3) ∧ W.cell? ⟨bt, oft + k * 4 + 3, none⟩ = some (.int .i64 p4))) (exact HS.out) (fail)
      go_wp2
      go_roundw
      case rel => exact ⟨k + 1, by omega, by simp, hide HW.out.drew⟩
      case measure => simp [intOf]; omega
    · obtain rfl : k = len := by omega
      have hkI : ¬ (k : Int) < (k : Int) := by omega
      go_wp2
      go_loopw [44] (fun i wr' => i = .int .i64 0 ∧ Hid (Below w.heap.size w wr')) (fun _ _ => 0)
      case atStart => exact ⟨rfl, hide (HB0.out.trans (HW.out.mono HB0.out.size))⟩
      case round =>
        obtain ⟨rfl, HB⟩ := hrel
        go_wp2
        go_ret
        exact ⟨HB.out, rfl⟩
end Go.Proofs.Ytoaekgacfnmmmaa
