/- the document's Copy, whose list is never nil -/
import Derived.Test.YtpgdmkjfgmiacaaOq
namespace Go.Proofs.Ytpgdmkjfgmiacaa
open Go.RowKit Go.Shelf
set_option maxRecDepth 40000 in
set_option maxHeartbeats 2000000 in
theorem copy_nil3 (low : Nat) (w : World) :
    Calls Try.prog 10 #[.agg #[.slice none 0 0, .int .u64 (low : Nat)]] w fun e w' => ∃ b' c', e = .returned (.agg #[.slice (some ⟨b', 0, none⟩) 0 c', .int .u64 (low : Nat)]) ∧ IsV w' (some ⟨b', 0, none⟩) 0 c' [] ∧ Below w.heap.size w w' := by
  have HB0 : Hid (Below w.heap.size w ((w.alloc (.cells #[.slice none 0 0, .int .u64 (low : Nat)] 25)).alloc (.cells #[.slice none 0 0, .int .u64 0] 25))) := hide (((Below.refl _ w).alloc (Nat.le_refl _) _).alloc (by simp) _)
  have HT0 : Hid (Two ((w.alloc (.cells #[.slice none 0 0, .int .u64 (low : Nat)] 25)).alloc (.cells #[.slice none 0 0, .int .u64 0] 25)) w.heap.size (.slice none 0 0) (.int .u64 (low : Nat))) := hide ((heap_alloc_old _ _ _ (by simp)).trans (heap_alloc_new _ _))
  have hY := heap_alloc_new (w.alloc (.cells #[.slice none 0 0, .int .u64 (low : Nat)] 25)) (.cells #[.slice none 0 0, .int .u64 0] 25)
  simp only [World.size_alloc] at hY
  have HR0 : Hid (Two _ (w.heap.size + 1) (.slice none 0 0) (.int .u64 0)) := hide hY
  have HVS : Hid (((w.alloc (.cells #[.slice none 0 0, .int .u64 (low : Nat)] 25)).alloc (.cells #[.slice none 0 0, .int .u64 0] 25)).heap.size = w.heap.size + 2) := hide (by simp)
  have hmix := mixed
  clear hY
  go_enter Try.func10, Try.ntmps10
  go_wp2_with fail
  generalize ((w.alloc (.cells #[.slice none 0 0, .int .u64 (low : Nat)] 25)).alloc (.cells #[.slice none 0 0, .int .u64 0] 25)) = V at *
  obtain ⟨c0, c1'⟩ := cells2_of_blk HT0.out
  refine wp_region_last 7 (fun W' : World => W'.cell? ⟨w.heap.size, 0, none⟩ = some (.slice none 0 0) ∧ W'.cell? ⟨w.heap.size, 1, none⟩ = some (.int .u64 (low : Nat))) hmix ⟨c0, c1'⟩ (fun hHeld => ?_)
  refine wpAnyL_take (i := 1) (v := ?v1s) rfl (by kernel_rfl) (fun _ _ _ h => h) (by assumption) (by rfl) ?hy1s ?hn1s
  case hy1s => (intro w hSw; (try dsimp only at hSw); skip; go_simp; try with_reducible rfl)
  try simp only [Act.put]
  refine wpAnyL_take (i := 2) (v := ?v2s) rfl (by kernel_rfl) (fun _ _ _ h => h) (by assumption) (by rfl) ?hy2s ?hn2s
  case hy2s => (intro w hSw; (try dsimp only at hSw); skip; go_simp; try with_reducible rfl)
  try simp only [Act.put]
  refine wpAnyL_take (i := 4) (v := ?v4s) rfl (by kernel_rfl) (fun _ _ _ h => h) (by assumption) (by rfl) ?hy4s ?hn4s
  case hy4s => (intro w hSw; (try dsimp only at hSw); skip; go_simp; try with_reducible rfl)
  try simp only [Act.put]
  refine wpAnyL_take (i := 5) (v := ?v5s) rfl (by kernel_rfl) (fun _ _ _ h => h) (by assumption) (by rfl) ?hy5s ?hn5s
  case hy5s => (intro w hSw; (try dsimp only at hSw); skip; go_simp; try with_reducible rfl)
  try simp only [Act.put]
  refine wpAnyL_one (i := 0) rfl (by kernel_rfl) (fun K hK => ?_)
  go_simp
  have HBa : Hid (Below V.heap.size V (V.drew.alloc (.cells #[] 51))) := hide ((Below.refl _ V).drew.alloc (Nat.le_refl _) _)
  obtain ⟨d0, d1⟩ := cells2_of_blk ((HBa.out.block _ (heap_lt HT0.out)).trans HT0.out)
  refine hK.out _ _ ⟨d0, d1⟩ (fun hHeld => ?_)
  clear hK K
  try simp only [Act.put]
  refine wpAnyL_one (i := 3) rfl (by kernel_rfl) (fun K hK => ?_)
  have HO0 : Hid ((V.alloc (.cells #[] 51)).drew.ownsRow (w.heap.size + 2) 51 4 (.slice (some ⟨V.heap.size, 0, none⟩) 0 0) 0 (([] : List Vr).flatMap vrc)) := hide (World.ownsRow.drew (World.ownsRow_made V #[] 0 (by rw [HVS.out]; exact Nat.le_refl _) (by decide) rfl))
  have HB3 : Hid (Below (w.heap.size + 2) V (V.alloc (.cells #[] 51)).drew) := hide (((Below.refl (w.heap.size + 2) V).alloc (by rw [HVS.out]; exact Nat.le_refl _) _).drew)
  go_simp
  generalize hw3 : (V.alloc (.cells #[] 51)).drew = w3 at *
  clear hw3
  have HT3 : Hid (Two w3 w.heap.size (.slice none 0 0) (.int .u64 (low : Nat))) := hide ((HB3.out.block _ (by omega)).trans HT0.out)
  have HR3 : Hid (Two w3 (w.heap.size + 1) (.slice none 0 0) (.int .u64 0)) := hide ((HB3.out.block _ (by omega)).trans HR0.out)
  obtain ⟨e0, e1⟩ := cells2_of_blk HT3.out
  obtain ⟨r0, r1⟩ := cells2_of_blk HR3.out
  have f0 := frz HR3.out 0
  have f1 := frz HR3.out 1
  refine hK.out _ _ ⟨e0, e1⟩ (fun hHeld => ?_)
  clear hK K
  try simp only [Act.put]
  refine wpAnyL_one (i := 6) rfl (by kernel_rfl) (fun K hK => ?_)
  go_simp
  refine hK.out _ _ ⟨e0, e1⟩ (fun hHeld => ?_)
  clear hK K
  try simp only [Act.put]
  refine wpAnyL_last rfl (by kernel_rfl) (by kernel_rfl) (fun K hK => ?_)
  go_simp
  refine hK.out _ _ ?_
  clear hK K hHeld
  have HOF : Hid (((w3.setCell ⟨w.heap.size + 1, 0, none⟩ (.slice (some ⟨V.heap.size, 0, none⟩) 0 0)).setCell ⟨w.heap.size + 1, 1, none⟩ (.int .u64 (low : Nat))).ownsRow (w.heap.size + 2) 51 4 (.slice (some ⟨V.heap.size, 0, none⟩) 0 0) 0 (([] : List Vr).flatMap vrc)) := hide (ownsRow_setCell_below (ownsRow_setCell_below HO0.out (by show w.heap.size + 1 < w.heap.size + 2; omega) _) (by show w.heap.size + 1 < w.heap.size + 2; omega) _)
  have HBF : Hid (Below w.heap.size w ((w3.setCell ⟨w.heap.size + 1, 0, none⟩ (.slice (some ⟨V.heap.size, 0, none⟩) 0 0)).setCell ⟨w.heap.size + 1, 1, none⟩ (.int .u64 (low : Nat)))) := hide (((HB0.out.trans (HB3.out.mono (by omega))).setCell (p := ⟨w.heap.size + 1, 0, none⟩) (by show _ ≤ w.heap.size + 1; omega) _).setCell (p := ⟨w.heap.size + 1, 1, none⟩) (by show _ ≤ w.heap.size + 1; omega) _)
  have HTF : Hid (Two ((w3.setCell ⟨w.heap.size + 1, 0, none⟩ (.slice (some ⟨V.heap.size, 0, none⟩) 0 0)).setCell ⟨w.heap.size + 1, 1, none⟩ (.int .u64 (low : Nat))) (w.heap.size + 1) (.slice (some ⟨V.heap.size, 0, none⟩) 0 0) (.int .u64 (low : Nat))) := hide (two_set HR3.out _ _)
  go_wp2
  refine bodyPost_ret (results_cell_row (P := Try.prog) (p := 2) (ty := 25) rfl _ _ _ 25 _ (0, 0) _ rfl HTF.out Try.underlying25 rfl (by kernel_rfl)) rfl ?_
  obtain ⟨a', c', he, hI, _⟩ := own_isV rfl HOF.out
  cases he
  exact ⟨_, _, rfl, hI, HBF.out⟩
set_option maxRecDepth 40000 in
set_option maxHeartbeats 2000000 in
theorem copy_zero3 (ad : Addr) (cap low : Nat) (w : World) :
    Calls Try.prog 10 #[.agg #[.slice (some ad) 0 cap, .int .u64 (low : Nat)]] w fun e w' => ∃ b' c', e = .returned (.agg #[.slice (some ⟨b', 0, none⟩) 0 c', .int .u64 (low : Nat)]) ∧ IsV w' (some ⟨b', 0, none⟩) 0 c' [] ∧ Below w.heap.size w w' := by
  have HB0 : Hid (Below w.heap.size w ((w.alloc (.cells #[.slice (some ad) 0 cap, .int .u64 (low : Nat)] 25)).alloc (.cells #[.slice none 0 0, .int .u64 0] 25))) := hide (((Below.refl _ w).alloc (Nat.le_refl _) _).alloc (by simp) _)
  have HT0 : Hid (Two ((w.alloc (.cells #[.slice (some ad) 0 cap, .int .u64 (low : Nat)] 25)).alloc (.cells #[.slice none 0 0, .int .u64 0] 25)) w.heap.size (.slice (some ad) 0 cap) (.int .u64 (low : Nat))) := hide ((heap_alloc_old _ _ _ (by simp)).trans (heap_alloc_new _ _))
  have hY := heap_alloc_new (w.alloc (.cells #[.slice (some ad) 0 cap, .int .u64 (low : Nat)] 25)) (.cells #[.slice none 0 0, .int .u64 0] 25)
  simp only [World.size_alloc] at hY
  have HR0 : Hid (Two _ (w.heap.size + 1) (.slice none 0 0) (.int .u64 0)) := hide hY
  have HVS : Hid (((w.alloc (.cells #[.slice (some ad) 0 cap, .int .u64 (low : Nat)] 25)).alloc (.cells #[.slice none 0 0, .int .u64 0] 25)).heap.size = w.heap.size + 2) := hide (by simp)
  have hmix := mixed
  clear hY
  go_enter Try.func10, Try.ntmps10
  go_wp2_with fail
  generalize ((w.alloc (.cells #[.slice (some ad) 0 cap, .int .u64 (low : Nat)] 25)).alloc (.cells #[.slice none 0 0, .int .u64 0] 25)) = V at *
  obtain ⟨c0, c1'⟩ := cells2_of_blk HT0.out
  refine wp_region_last 7 (fun W' : World => W'.cell? ⟨w.heap.size, 0, none⟩ = some (.slice (some ad) 0 cap) ∧ W'.cell? ⟨w.heap.size, 1, none⟩ = some (.int .u64 (low : Nat))) hmix ⟨c0, c1'⟩ (fun hHeld => ?_)
  refine wpAnyL_take (i := 1) (v := ?v1s) rfl (by kernel_rfl) (fun _ _ _ h => h) (by assumption) (by rfl) ?hy1s ?hn1s
  case hy1s => (intro w hSw; (try dsimp only at hSw); skip; go_simp; try with_reducible rfl)
  try simp only [Act.put]
  refine wpAnyL_take (i := 2) (v := ?v2s) rfl (by kernel_rfl) (fun _ _ _ h => h) (by assumption) (by rfl) ?hy2s ?hn2s
  case hy2s => (intro w hSw; (try dsimp only at hSw); skip; go_simp; try with_reducible rfl)
  try simp only [Act.put]
  refine wpAnyL_take (i := 4) (v := ?v4s) rfl (by kernel_rfl) (fun _ _ _ h => h) (by assumption) (by rfl) ?hy4s ?hn4s
  case hy4s => (intro w hSw; (try dsimp only at hSw); skip; go_simp; try with_reducible rfl)
  try simp only [Act.put]
  refine wpAnyL_take (i := 5) (v := ?v5s) rfl (by kernel_rfl) (fun _ _ _ h => h) (by assumption) (by rfl) ?hy5s ?hn5s
  case hy5s => (intro w hSw; (try dsimp only at hSw); skip; go_simp; try with_reducible rfl)
  try simp only [Act.put]
  refine wpAnyL_one (i := 0) rfl (by kernel_rfl) (fun K hK => ?_)
  go_simp
  have HBa : Hid (Below V.heap.size V (V.drew.alloc (.cells #[] 51))) := hide ((Below.refl _ V).drew.alloc (Nat.le_refl _) _)
  obtain ⟨d0, d1⟩ := cells2_of_blk ((HBa.out.block _ (heap_lt HT0.out)).trans HT0.out)
  refine hK.out _ _ ⟨d0, d1⟩ (fun hHeld => ?_)
  clear hK K
  try simp only [Act.put]
  refine wpAnyL_one (i := 3) rfl (by kernel_rfl) (fun K hK => ?_)
  have HO0 : Hid ((V.alloc (.cells #[] 51)).drew.ownsRow (w.heap.size + 2) 51 4 (.slice (some ⟨V.heap.size, 0, none⟩) 0 0) 0 (([] : List Vr).flatMap vrc)) := hide (World.ownsRow.drew (World.ownsRow_made V #[] 0 (by rw [HVS.out]; exact Nat.le_refl _) (by decide) rfl))
  have HB3 : Hid (Below (w.heap.size + 2) V (V.alloc (.cells #[] 51)).drew) := hide (((Below.refl (w.heap.size + 2) V).alloc (by rw [HVS.out]; exact Nat.le_refl _) _).drew)
  go_simp
  generalize hw3 : (V.alloc (.cells #[] 51)).drew = w3 at *
  clear hw3
  have HT3 : Hid (Two w3 w.heap.size (.slice (some ad) 0 cap) (.int .u64 (low : Nat))) := hide ((HB3.out.block _ (by omega)).trans HT0.out)
  have HR3 : Hid (Two w3 (w.heap.size + 1) (.slice none 0 0) (.int .u64 0)) := hide ((HB3.out.block _ (by omega)).trans HR0.out)
  obtain ⟨e0, e1⟩ := cells2_of_blk HT3.out
  obtain ⟨r0, r1⟩ := cells2_of_blk HR3.out
  have f0 := frz HR3.out 0
  have f1 := frz HR3.out 1
  refine hK.out _ _ ⟨e0, e1⟩ (fun hHeld => ?_)
  clear hK K
  try simp only [Act.put]
  refine wpAnyL_one (i := 6) rfl (by kernel_rfl) (fun K hK => ?_)
  go_simp
  refine hK.out _ _ ⟨e0, e1⟩ (fun hHeld => ?_)
  clear hK K
  try simp only [Act.put]
  refine wpAnyL_last rfl (by kernel_rfl) (by kernel_rfl) (fun K hK => ?_)
  go_simp
  refine hK.out _ _ ?_
  clear hK K hHeld
  have HOF : Hid (((w3.setCell ⟨w.heap.size + 1, 0, none⟩ (.slice (some ⟨V.heap.size, 0, none⟩) 0 0)).setCell ⟨w.heap.size + 1, 1, none⟩ (.int .u64 (low : Nat))).ownsRow (w.heap.size + 2) 51 4 (.slice (some ⟨V.heap.size, 0, none⟩) 0 0) 0 (([] : List Vr).flatMap vrc)) := hide (ownsRow_setCell_below (ownsRow_setCell_below HO0.out (by show w.heap.size + 1 < w.heap.size + 2; omega) _) (by show w.heap.size + 1 < w.heap.size + 2; omega) _)
  have HBF : Hid (Below w.heap.size w ((w3.setCell ⟨w.heap.size + 1, 0, none⟩ (.slice (some ⟨V.heap.size, 0, none⟩) 0 0)).setCell ⟨w.heap.size + 1, 1, none⟩ (.int .u64 (low : Nat)))) := hide (((HB0.out.trans (HB3.out.mono (by omega))).setCell (p := ⟨w.heap.size + 1, 0, none⟩) (by show _ ≤ w.heap.size + 1; omega) _).setCell (p := ⟨w.heap.size + 1, 1, none⟩) (by show _ ≤ w.heap.size + 1; omega) _)
  have HTF : Hid (Two ((w3.setCell ⟨w.heap.size + 1, 0, none⟩ (.slice (some ⟨V.heap.size, 0, none⟩) 0 0)).setCell ⟨w.heap.size + 1, 1, none⟩ (.int .u64 (low : Nat))) (w.heap.size + 1) (.slice (some ⟨V.heap.size, 0, none⟩) 0 0) (.int .u64 (low : Nat))) := hide (two_set HR3.out _ _)
  go_wp2
  refine bodyPost_ret (results_cell_row (P := Try.prog) (p := 2) (ty := 25) rfl _ _ _ 25 _ (0, 0) _ rfl HTF.out Try.underlying25 rfl (by kernel_rfl)) rfl ?_
  obtain ⟨a', c', he, hI, _⟩ := own_isV rfl HOF.out
  cases he
  exact ⟨_, _, rfl, hI, HBF.out⟩
theorem copy_some3 (a : Option Addr) (len cap low : Nat) (l : List Vr) (w : World) (h : IsV w a len cap l) (hb : len * 48 ≤ 140737488355328) (hn : a = none → cap = 0) :
    Calls Try.prog 10 #[.agg #[.slice a len cap, .int .u64 (low : Nat)]] w fun e w' => ∃ b' o' c', e = .returned (.agg #[.slice (some ⟨b', o', none⟩) len c', .int .u64 (low : Nat)]) ∧ IsV w' (some ⟨b', o', none⟩) len c' l ∧ Below w.heap.size w w' := by
  by_cases h0 : len = 0
  · subst h0
    obtain rfl : l = [] := List.length_eq_zero_iff.1 h.1
    cases a with
    | none =>
      obtain rfl := hn rfl
      refine (copy_nil3 low w).mono ?_
      rintro e w' ⟨b', c', rfl, h1, h2⟩
      exact ⟨b', 0, c', rfl, h1, h2⟩
    | some ad =>
      refine (copy_zero3 ad cap low w).mono ?_
      rintro e w' ⟨b', c', rfl, h1, h2⟩
      exact ⟨b', 0, c', rfl, h1, h2⟩
  · refine (copy_any a len cap low l w h hb hn).mono ?_
    rintro e w' ⟨a', c', rfl, h1, h2⟩
    obtain ⟨b, off, rfl, _⟩ := h1.2.2.2 0 (by omega)
    exact ⟨b, off, c', rfl, h1, h2⟩
end Go.Proofs.Ytpgdmkjfgmiacaa
