/- paysWith -/
import Derived.Test.YtffhkljegopjmaaDoorGO
import Derived.Shelf.Abstract
namespace Go.Proofs.YtffhkljegopjmaaDoor.Lg
open Go.RowKit
set_option maxRecDepth 40000
/-- the pays with another one of the order -/
def pwL (P : List Py) (lo hi : Nat) (y : Py) : List Py := P.take lo ++ (if noneB y = true then [] else [y]) ++ P.drop hi
theorem tail2P (a0 : Option Addr) (n0 c0 : Nat) (l0 : List Py) (a2 : Option Addr) (n2 c2 : Nat) (l2 : List Py) (w : World) (h0 : IsP w a0 n0 c0 l0) (h2 : IsP w a2 n2 c2 l2) (hn : n0 + n2 ≤ 100000) :
    Calls Tryd.prog 57 #[.slice (some ⟨w.heap.size, 0, none⟩) 2 2] (w.alloc (.cells #[.slice a0 n0 c0, .slice a2 n2 c2] 32)).drew fun e w' => ∃ a' m c', e = .returned (.slice a' m c') ∧ Hid (m = (l0 ++ l2).length ∧ IsP w' a' m c' (l0 ++ l2)) ∧ Below w.heap.size w w' ∧ Hid (NewA w.heap.size a') := by
  generalize hW : (w.alloc (.cells #[.slice a0 n0 c0, .slice a2 n2 c2] 32)).drew = W
  have hB : Below w.heap.size w W := hW ▸ ((Below.refl _ w).alloc (Nat.le_refl _) _).drew
  have hS : W.heap.size = w.heap.size + 1 := by rw [← hW]; simp
  have hQ : W.heap[w.heap.size]? = some (.cells #[.slice a0 n0 c0, .slice a2 n2 c2] 32 (0, 0)) := by
    rw [← hW]
    exact heap_alloc_new w (.cells #[.slice a0 n0 c0, .slice a2 n2 c2] 32)
  clear hW
  have hR : RowsP W w.heap.size 2 (fun k => if k = 0 then a0 else a2) (fun k => if k = 0 then n0 else n2) (fun k => if k = 0 then c0 else c2) (fun k => if k = 0 then l0 else l2) := by
    refine ⟨by omega, fun k hk => ?_⟩
    rcases (by omega : k = 0 ∨ k = 1) with rfl | rfl
    · exact ⟨cell_blk hQ rfl, h0.below' hB⟩
    · exact ⟨cell_blk hQ rfl, h2.below' hB⟩
  refine (concatP_any w.heap.size 2 _ _ _ _ W hR (by omega) (by simpa [preN] using hn)).mono ?_
  rintro e w' ⟨⟨v, rfl, hown⟩, hb⟩
  simp [preN, preL] at hown
  have hl : (l0 ++ l2).length = n0 + n2 := by simp [h0.1, h2.1]
  obtain ⟨a', c', rfl, hI, hN⟩ := own_IsP hl (by
    intro x hx
    simp only [List.mem_append] at hx
    rcases hx with hx | hx
    · exact h0.2.2.2.1 x hx
    · exact h2.2.2.2.1 x hx) (by rw [List.flatMap_append]; exact hown)
  exact ⟨a', _, c', rfl, hide ⟨hl.symm, hI⟩, hB.trans (hb.mono (by omega)), hide (NewA.mono hN (by omega))⟩
theorem tail3P (a0 : Option Addr) (n0 c0 : Nat) (l0 : List Py) (c : Py) (a2 : Option Addr) (n2 c2 : Nat) (l2 : List Py) (w : World) (h0 : IsP w a0 n0 c0 l0) (h2 : IsP w a2 n2 c2 l2) (hc : okP c) (hn : n0 + 1 + n2 ≤ 100000) :
    Calls Tryd.prog 57 #[.slice (some ⟨w.heap.size + 1, 0, none⟩) 3 3] ((w.alloc (.cells #[.int .i64 c.o, .int .i64 c.op, .int .i64 c.ca, .int .i64 c.re] 47)).alloc (.cells #[.slice a0 n0 c0, .slice (some ⟨w.heap.size, 0, none⟩) 1 1, .slice a2 n2 c2] 32)).drew fun e w' => ∃ a' m c', e = .returned (.slice a' m c') ∧ Hid (m = (l0 ++ [c] ++ l2).length ∧ IsP w' a' m c' (l0 ++ [c] ++ l2)) ∧ Below w.heap.size w w' ∧ Hid (NewA w.heap.size a') := by
  generalize hW : ((w.alloc (.cells #[.int .i64 c.o, .int .i64 c.op, .int .i64 c.ca, .int .i64 c.re] 47)).alloc (.cells #[.slice a0 n0 c0, .slice (some ⟨w.heap.size, 0, none⟩) 1 1, .slice a2 n2 c2] 32)).drew = W
  have hB : Below w.heap.size w W := hW ▸ (((Below.refl _ w).alloc (Nat.le_refl _) _).alloc (by simp) _).drew
  have hS : W.heap.size = w.heap.size + 2 := by rw [← hW]; simp
  have hG : BlkP W w.heap.size c := by
    rw [← hW]
    exact (Below.heap_alloc _ _ _ (by simp)).trans (heap_alloc_new _ _)
  have hQ : W.heap[w.heap.size + 1]? = some (.cells #[.slice a0 n0 c0, .slice (some ⟨w.heap.size, 0, none⟩) 1 1, .slice a2 n2 c2] 32 (0, 0)) := by
    rw [← hW]
    have := heap_alloc_new (w.alloc (.cells #[.int .i64 c.o, .int .i64 c.op, .int .i64 c.ca, .int .i64 c.re] 47)) (.cells #[.slice a0 n0 c0, .slice (some ⟨w.heap.size, 0, none⟩) 1 1, .slice a2 n2 c2] 32)
    rwa [show (w.alloc (.cells #[.int .i64 c.o, .int .i64 c.op, .int .i64 c.ca, .int .i64 c.re] 47)).heap.size = w.heap.size + 1 by simp] at this
  clear hW
  have h1 : IsP W (some ⟨w.heap.size, 0, none⟩) 1 1 [c] := ⟨rfl, Nat.le_refl _, by decide, by simpa using hc, fun i hi => ⟨w.heap.size, 0, rfl, by omega, by
    obtain rfl : i = 0 := by omega
    exact hG.cells⟩, by intro e; cases e⟩
  have hR : RowsP W (w.heap.size + 1) 3 (fun k => if k = 0 then a0 else if k = 1 then some ⟨w.heap.size, 0, none⟩ else a2) (fun k => if k = 0 then n0 else if k = 1 then 1 else n2) (fun k => if k = 0 then c0 else if k = 1 then 1 else c2) (fun k => if k = 0 then l0 else if k = 1 then [c] else l2) := by
    refine ⟨by omega, fun k hk => ?_⟩
    rcases (by omega : k = 0 ∨ k = 1 ∨ k = 2) with rfl | rfl | rfl
    · exact ⟨cell_blk hQ rfl, h0.below' hB⟩
    · exact ⟨cell_blk hQ rfl, h1⟩
    · exact ⟨cell_blk hQ rfl, h2.below' hB⟩
  refine (concatP_any (w.heap.size + 1) 3 _ _ _ _ W hR (by omega) (by simpa [preN] using hn)).mono ?_
  rintro e w' ⟨⟨v, rfl, hown⟩, hb⟩
  simp [preN, preL] at hown
  have hl : (l0 ++ [c] ++ l2).length = n0 + 1 + n2 := by simp [h0.1, h2.1]; omega
  obtain ⟨a', c', rfl, hI, hN⟩ := own_IsP hl (by
    intro x hx
    simp only [List.mem_append, List.mem_singleton] at hx
    rcases hx with (hx | rfl) | hx
    · exact h0.2.2.2.1 x hx
    · exact hc
    · exact h2.2.2.2.1 x hx) (by simpa using hown)
  exact ⟨a', _, c', rfl, hide ⟨hl.symm, hI⟩, hB.trans (hb.mono (by omega)), hide (NewA.mono hN (by omega))⟩
set_option maxHeartbeats 4000000 in
theorem paysWith_any (a : Option Addr) (len cap : Nat) (P : List Py) (a2 : Option Addr) (len2 cap2 : Nat) (q : Py) (lo hi : Nat) (y : Py) (w : World) (h : IsP w a len cap P) (hlo : lo ≤ hi) (hhi : hi ≤ len) (hlen : len ≤ 1025) (hy : okP y) :
    Calls Tryd.prog 49 #[vcg ⟨.slice a len cap, .slice a2 len2 cap2, q, (lo : Int), (hi : Int)⟩, vp y] w fun e w' => ∃ a' c', e = .returned (.slice a' (pwL P lo hi y).length c') ∧ IsP w' a' (pwL P lo hi y).length c' (pwL P lo hi y) ∧ Below w.heap.size w w' ∧ Hid (NewA w.heap.size a') := by
  have HV := hide h
  have HLN := hide h.1
  have hcap := h.2.1
  have hcm : cap ≤ 9223372036854775807 := h.2.2.1
  have HLE := hide hlen
  have HKO := hide hy
  have HPT : Hid (pwL P lo hi y = P.take lo ++ (if noneB y = true then [] else [y]) ++ P.drop hi) := hide rfl
  generalize pwL P lo hi y = PU at *
  obtain ⟨y1, y2, y3, y4⟩ := y
  obtain ⟨q1, q2, q3, q4⟩ := q
  have HNO := hide (fun W => nothing_any ⟨y1, y2, y3, y4⟩ W)
  clear h hy hlen
  have hloI : (lo : Int) ≤ (len : Int) := by omega
  have hloC : (lo : Int) ≤ (cap : Int) := by omega
  have hlo0 : (0 : Int) ≤ (lo : Int) := by omega
  have hlenC : (len : Int) ≤ (cap : Int) := by omega
  have hhiI : (hi : Int) ≤ (len : Int) := by omega
  have hhiC : (hi : Int) ≤ (cap : Int) := by omega
  have hhi0 : (0 : Int) ≤ (hi : Int) := by omega
  go_enter Tryd.func49, Tryd.ntmps49
  go_wp2_with fail
  generalize hW0 : (w.alloc (.cells #[.slice a len cap, .slice a2 len2 cap2, .int .i64 q1, .int .i64 q2, .int .i64 q3, .int .i64 q4, .int .i64 (lo : Int), .int .i64 (hi : Int)] 66)).alloc (.cells #[.int .i64 y1, .int .i64 y2, .int .i64 y3, .int .i64 y4] 47) = W0
  have HB0 : Hid (Below w.heap.size w W0) := hide (hW0 ▸ ((Below.refl _ w).alloc (Nat.le_refl _) _).alloc (by simp) _)
  have HG0 : Hid (BlkC W0 w.heap.size ⟨.slice a len cap, .slice a2 len2 cap2, ⟨q1, q2, q3, q4⟩, (lo : Int), (hi : Int)⟩) := hide (hW0 ▸ (Below.heap_alloc _ _ _ (by simp)).trans (heap_alloc_new _ _))
  have HP0 : Hid (BlkP W0 (w.heap.size + 1) ⟨y1, y2, y3, y4⟩) := hide (by
    rw [← hW0]
    have := heap_alloc_new (w.alloc (.cells #[.slice a len cap, .slice a2 len2 cap2, .int .i64 q1, .int .i64 q2, .int .i64 q3, .int .i64 q4, .int .i64 (lo : Int), .int .i64 (hi : Int)] 66)) (.cells #[.int .i64 y1, .int .i64 y2, .int .i64 y3, .int .i64 y4] 47)
    rwa [show (w.alloc (.cells #[.slice a len cap, .slice a2 len2 cap2, .int .i64 q1, .int .i64 q2, .int .i64 q3, .int .i64 q4, .int .i64 (lo : Int), .int .i64 (hi : Int)] 66)).heap.size = w.heap.size + 1 by simp] at this)
  clear hW0
  refine (HNO.out W0).mono ?_
  rintro e w4 ⟨rfl, hb2⟩
  have HB4 : Hid (Below w.heap.size w w4) := hide (HB0.out.trans (hb2.mono HB0.out.size))
  have HG4 := hide (HG0.out.below (heap_lt HG0.out) hb2)
  have HP4 := hide (HP0.out.below (heap_lt HP0.out) hb2)
  clear hb2 HNO HB0 HG0 HP0
  have HI4 := hide (HV.out.below' HB4.out)
  have HKD : Hid (∀ W, Below w4.heap.size w4 W → (W.cell? ⟨w.heap.size, 0, none⟩ = some (.slice a len cap) ∧ W.cell? ⟨w.heap.size, 6, none⟩ = some (.int .i64 (lo : Int)) ∧ W.cell? ⟨w.heap.size, 7, none⟩ = some (.int .i64 (hi : Int)) ∧ W.cell? ⟨w.heap.size + 1, 0, none⟩ = some (.int .i64 y1) ∧ W.cell? ⟨w.heap.size + 1, 1, none⟩ = some (.int .i64 y2) ∧ W.cell? ⟨w.heap.size + 1, 2, none⟩ = some (.int .i64 y3) ∧ W.cell? ⟨w.heap.size + 1, 3, none⟩ = some (.int .i64 y4))) := hide (fun W hW => by
    obtain ⟨d1, d2, d3, d4⟩ := (HP4.out.below (heap_lt HP4.out) hW).cells
    obtain ⟨c1, c2, c3, c4, c5, c6, c7, c8⟩ := (HG4.out.below (heap_lt HG4.out) hW).cells
    simp only [Nat.zero_add] at d1 d2 d3 d4
    exact ⟨c1, c7, c8, d1, d2, d3, d4⟩)
  have HKA := hide (HKD.out w4.drew (Below.refl _ _).drew)
  have HKB := hide (fun o => HKD.out (w4.alloc o).drew ((Below.refl _ _).alloc (Nat.le_refl _) o).drew)
  have HKC := hide (fun o o' => HKD.out ((w4.alloc o).alloc o').drew (((Below.refl _ _).alloc (Nat.le_refl _) o).alloc (by simp) o').drew)
  clear HG4 HP4
  cases a with
  | none =>
    obtain rfl := HV.out.2.2.2.2.2 rfl
    obtain rfl : len = 0 := by omega
    obtain rfl : hi = 0 := by omega
    obtain rfl : lo = 0 := by omega
    have hl0 := List.length_eq_zero_iff.1 HLN.out
    subst hl0
    simp only [Int.natCast_zero] at HKA HKB HKC HKD
    have HT2 := hide (tail2P none 0 0 [] none 0 0 [] w4 HI4.out HI4.out (by omega))
    have HT3 := hide (tail3P none 0 0 [] ⟨y1, y2, y3, y4⟩ none 0 0 [] w4 HI4.out HI4.out HKO.out (by omega))
    cases hN : noneB ⟨y1, y2, y3, y4⟩
    · have HPE : Hid (PU = ([] : List Py) ++ [⟨y1, y2, y3, y4⟩] ++ ([] : List Py)) := hide (by rw [HPT.out, hN]; simp)
      clear hN
      go_wp2_with fail
      go_region_held (fun W : World => (W.cell? ⟨w.heap.size, 0, none⟩ = some (.slice none 0 0) ∧ W.cell? ⟨w.heap.size, 6, none⟩ = some (.int .i64 0) ∧ W.cell? ⟨w.heap.size, 7, none⟩ = some (.int .i64 0) ∧ W.cell? ⟨w.heap.size + 1, 0, none⟩ = some (.int .i64 y1) ∧ W.cell? ⟨w.heap.size + 1, 1, none⟩ = some (.int .i64 y2) ∧ W.cell? ⟨w.heap.size + 1, 2, none⟩ = some (.int .i64 y3) ∧ W.cell? ⟨w.heap.size + 1, 3, none⟩ = some (.int .i64 y4))) (first | exact HKA.out | exact HKB.out _ | exact HKC.out _ _ | exact HKD.out _ HBt) (first | (go_at_call 57; refine HT3.out.mono ?_; rintro e w' ⟨a', m', c', rfl, HIt, HBt, HNt⟩))
      go_wp2
      go_ret
      exact ⟨a', c', by rw [HPE.out, ← HIt.out.1]; rfl, by rw [HPE.out, ← HIt.out.1]; exact HIt.out.2, HB4.out.trans (HBt.mono HB4.out.size), hide (HNt.out.mono HB4.out.size)⟩
    · have HPE : Hid (PU = ([] : List Py) ++ ([] : List Py)) := hide (by rw [HPT.out, hN]; simp)
      clear hN
      go_wp2_with fail
      go_region_held (fun W : World => (W.cell? ⟨w.heap.size, 0, none⟩ = some (.slice none 0 0) ∧ W.cell? ⟨w.heap.size, 6, none⟩ = some (.int .i64 0) ∧ W.cell? ⟨w.heap.size, 7, none⟩ = some (.int .i64 0) ∧ W.cell? ⟨w.heap.size + 1, 0, none⟩ = some (.int .i64 y1) ∧ W.cell? ⟨w.heap.size + 1, 1, none⟩ = some (.int .i64 y2) ∧ W.cell? ⟨w.heap.size + 1, 2, none⟩ = some (.int .i64 y3) ∧ W.cell? ⟨w.heap.size + 1, 3, none⟩ = some (.int .i64 y4))) (first | exact HKA.out | exact HKB.out _ | exact HKC.out _ _ | exact HKD.out _ HBt) (first | (go_at_call 57; refine HT2.out.mono ?_; rintro e w' ⟨a', m', c', rfl, HIt, HBt, HNt⟩))
      go_wp2
      go_ret
      exact ⟨a', c', by rw [HPE.out, ← HIt.out.1]; rfl, by rw [HPE.out, ← HIt.out.1]; exact HIt.out.2, HB4.out.trans (HBt.mono HB4.out.size), hide (HNt.out.mono HB4.out.size)⟩
  | some ad =>
    by_cases hlc : hi = cap
    · obtain rfl : len = hi := by omega
      obtain rfl : cap = len := by omega
      have HT2 := hide (tail2P (some ad) lo cap (P.take lo) (some ad) 0 0 (P.drop cap) w4 (isP_take HI4.out hlo) (isP_none' HI4.out (Nat.le_refl _)) (by have := HLE.out; omega))
      have HT3 := hide (tail3P (some ad) lo cap (P.take lo) ⟨y1, y2, y3, y4⟩ (some ad) 0 0 (P.drop cap) w4 (isP_take HI4.out hlo) (isP_none' HI4.out (Nat.le_refl _)) HKO.out (by have := HLE.out; omega))
      cases hN : noneB ⟨y1, y2, y3, y4⟩
      · have HPE : Hid (PU = P.take lo ++ [⟨y1, y2, y3, y4⟩] ++ P.drop cap) := hide (by rw [HPT.out, hN]; simp)
        clear hN
        go_wp2_with fail
        go_region_held (fun W : World => (W.cell? ⟨w.heap.size, 0, none⟩ = some (.slice (some ad) cap cap) ∧ W.cell? ⟨w.heap.size, 6, none⟩ = some (.int .i64 (lo : Int)) ∧ W.cell? ⟨w.heap.size, 7, none⟩ = some (.int .i64 (cap : Int)) ∧ W.cell? ⟨w.heap.size + 1, 0, none⟩ = some (.int .i64 y1) ∧ W.cell? ⟨w.heap.size + 1, 1, none⟩ = some (.int .i64 y2) ∧ W.cell? ⟨w.heap.size + 1, 2, none⟩ = some (.int .i64 y3) ∧ W.cell? ⟨w.heap.size + 1, 3, none⟩ = some (.int .i64 y4))) (first | exact HKA.out | exact HKB.out _ | exact HKC.out _ _ | exact HKD.out _ HBt) (first | (go_at_call 57; refine HT3.out.mono ?_; rintro e w' ⟨a', m', c', rfl, HIt, HBt, HNt⟩))
        go_wp2
        go_ret
        exact ⟨a', c', by rw [HPE.out, ← HIt.out.1]; rfl, by rw [HPE.out, ← HIt.out.1]; exact HIt.out.2, HB4.out.trans (HBt.mono HB4.out.size), hide (HNt.out.mono HB4.out.size)⟩
      · have HPE : Hid (PU = P.take lo ++ P.drop cap) := hide (by rw [HPT.out, hN]; simp)
        clear hN
        go_wp2_with fail
        go_region_held (fun W : World => (W.cell? ⟨w.heap.size, 0, none⟩ = some (.slice (some ad) cap cap) ∧ W.cell? ⟨w.heap.size, 6, none⟩ = some (.int .i64 (lo : Int)) ∧ W.cell? ⟨w.heap.size, 7, none⟩ = some (.int .i64 (cap : Int)) ∧ W.cell? ⟨w.heap.size + 1, 0, none⟩ = some (.int .i64 y1) ∧ W.cell? ⟨w.heap.size + 1, 1, none⟩ = some (.int .i64 y2) ∧ W.cell? ⟨w.heap.size + 1, 2, none⟩ = some (.int .i64 y3) ∧ W.cell? ⟨w.heap.size + 1, 3, none⟩ = some (.int .i64 y4))) (first | exact HKA.out | exact HKB.out _ | exact HKC.out _ _ | exact HKD.out _ HBt) (first | (go_at_call 57; refine HT2.out.mono ?_; rintro e w' ⟨a', m', c', rfl, HIt, HBt, HNt⟩))
        go_wp2
        go_ret
        exact ⟨a', c', by rw [HPE.out, ← HIt.out.1]; rfl, by rw [HPE.out, ← HIt.out.1]; exact HIt.out.2, HB4.out.trans (HBt.mono HB4.out.size), hide (HNt.out.mono HB4.out.size)⟩
    · have hlc' : hi < cap := by omega
      have hlcI : ¬ (hi : Int) = (cap : Int) := by omega
      have HT2 := hide (tail2P (some ad) lo cap (P.take lo) (some (ad.add (hi * 4))) (len - hi) (cap - hi) (P.drop hi) w4 (isP_take HI4.out (by omega)) (isP_drop' HI4.out hhi) (by have := HLE.out; omega))
      have HT3 := hide (tail3P (some ad) lo cap (P.take lo) ⟨y1, y2, y3, y4⟩ (some (ad.add (hi * 4))) (len - hi) (cap - hi) (P.drop hi) w4 (isP_take HI4.out (by omega)) (isP_drop' HI4.out hhi) HKO.out (by have := HLE.out; omega))
      cases hN : noneB ⟨y1, y2, y3, y4⟩
      · have HPE : Hid (PU = P.take lo ++ [⟨y1, y2, y3, y4⟩] ++ P.drop hi) := hide (by rw [HPT.out, hN]; simp)
        clear hN
        go_wp2_with fail
        go_region_held (fun W : World => (W.cell? ⟨w.heap.size, 0, none⟩ = some (.slice (some ad) len cap) ∧ W.cell? ⟨w.heap.size, 6, none⟩ = some (.int .i64 (lo : Int)) ∧ W.cell? ⟨w.heap.size, 7, none⟩ = some (.int .i64 (hi : Int)) ∧ W.cell? ⟨w.heap.size + 1, 0, none⟩ = some (.int .i64 y1) ∧ W.cell? ⟨w.heap.size + 1, 1, none⟩ = some (.int .i64 y2) ∧ W.cell? ⟨w.heap.size + 1, 2, none⟩ = some (.int .i64 y3) ∧ W.cell? ⟨w.heap.size + 1, 3, none⟩ = some (.int .i64 y4))) (first | exact HKA.out | exact HKB.out _ | exact HKC.out _ _ | exact HKD.out _ HBt) (first | (go_at_call 57; refine HT3.out.mono ?_; rintro e w' ⟨a', m', c', rfl, HIt, HBt, HNt⟩))
        go_wp2
        go_ret
        exact ⟨a', c', by rw [HPE.out, ← HIt.out.1]; rfl, by rw [HPE.out, ← HIt.out.1]; exact HIt.out.2, HB4.out.trans (HBt.mono HB4.out.size), hide (HNt.out.mono HB4.out.size)⟩
      · have HPE : Hid (PU = P.take lo ++ P.drop hi) := hide (by rw [HPT.out, hN]; simp)
        clear hN
        go_wp2_with fail
        go_region_held (fun W : World => (W.cell? ⟨w.heap.size, 0, none⟩ = some (.slice (some ad) len cap) ∧ W.cell? ⟨w.heap.size, 6, none⟩ = some (.int .i64 (lo : Int)) ∧ W.cell? ⟨w.heap.size, 7, none⟩ = some (.int .i64 (hi : Int)) ∧ W.cell? ⟨w.heap.size + 1, 0, none⟩ = some (.int .i64 y1) ∧ W.cell? ⟨w.heap.size + 1, 1, none⟩ = some (.int .i64 y2) ∧ W.cell? ⟨w.heap.size + 1, 2, none⟩ = some (.int .i64 y3) ∧ W.cell? ⟨w.heap.size + 1, 3, none⟩ = some (.int .i64 y4))) (first | exact HKA.out | exact HKB.out _ | exact HKC.out _ _ | exact HKD.out _ HBt) (first | (go_at_call 57; refine HT2.out.mono ?_; rintro e w' ⟨a', m', c', rfl, HIt, HBt, HNt⟩))
        go_wp2
        go_ret
        exact ⟨a', c', by rw [HPE.out, ← HIt.out.1]; rfl, by rw [HPE.out, ← HIt.out.1]; exact HIt.out.2, HB4.out.trans (HBt.mono HB4.out.size), hide (HNt.out.mono HB4.out.size)⟩
end Go.Proofs.YtffhkljegopjmaaDoor.Lg
