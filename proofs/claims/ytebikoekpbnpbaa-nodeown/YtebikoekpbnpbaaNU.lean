/- Encode -/
import Derived.Test.YtebikoekpbnpbaaNT
import Derived.Test.YtebikoekpbnpbaaRC
namespace Go.Proofs.Ytebikoekpbnpbaa
open Go.RowKit Cod
set_option maxRecDepth 100000
set_option linter.unusedVariables false
set_option linter.unusedSimpArgs false
/-- noughts behind, up to N bytes -/
def padN (N : Nat) (l : List Nat) : List Nat := l ++ List.replicate (N - l.length) 0
theorem padN_len {N : Nat} {l : List Nat} (h : l.length ≤ N) : (padN N l).length = N := by simp [padN]; omega
theorem padN_lt {N : Nat} {l : List Nat} (h : ∀ x ∈ l, x < 256) : ∀ x ∈ padN N l, x < 256 := fun x hx => by
  rcases List.mem_append.1 hx with h1 | h1
  · exact h x h1
  · rw [List.eq_of_mem_replicate h1]; decide
theorem cp_pad {W : World} {q N : Nat} {src : Option Addr} {len cap : Nat} {l : List Nat} (hq : W.heap[q]? = some (.cells (zeros N).toArray 5 (0, 0))) (hb : IsB W src len cap l) (h0 : 0 < len) (hl : len ≤ N) :
    ∃ W', (Builtin.copy_ #[26, 26] 3 #[.slice (some ⟨q, 0, none⟩) N N, .slice src len cap]).run Try.prog W = .ok (.int .i64 (len : Int)) W' ∧ W'.heap[q]? = some (.cells (bv (padN N l)).toArray 5 (0, 0)) ∧ ∀ B w0, Below B w0 W → B ≤ q → Below B w0 W' := by
  obtain ⟨h1, h2, h3, h4, h5⟩ := id hb
  have hsz : (Try.prog.info? 5).map (·.size) = some 1 := by kernel_rfl
  obtain ⟨b, off, rfl, hlt, hc⟩ := h5.resolve_left (fun h => by omega)
  have hr := run_copy_row (P := Try.prog) W 26 26 3 5 q 0 N N ⟨b, off, none⟩ len cap (zeros N).toArray 5 (bv l) Try.underlying26 hsz hq (by rw [bv_length, h1]; exact (Nat.min_eq_left hl).symm) hb.src (by rw [bv_length, h1]; simp [zeros]; omega) (bv_one l)
  have e : (zeros N).toArray.toList.take 0 ++ bv l ++ (zeros N).toArray.toList.drop (0 + (bv l).length) = bv (padN N l) := by
    simp [padN, bv, zeros]
  rw [e, bv_length, h1] at hr
  refine ⟨_, hr, ?_, fun B w0 hB hBq => below_setRow hB hBq _⟩
  exact setRow_heap W q _ _ 5 _ hq
theorem blk_isB {W : World} {q N : Nat} {l : List Nat} (hq : W.heap[q]? = some (.cells (bv l).toArray 5 (0, 0))) (hl : l.length = N) (hN : N ≤ 10000) (h4 : ∀ x ∈ l, x < 256) : IsB W (some ⟨q, 0, none⟩) N N l := by
  refine ⟨hl, Nat.le_refl _, by unfold maxLen; omega, h4, .inr ⟨q, 0, rfl, heap_ltN hq, fun i hi => ?_⟩⟩
  rw [Nat.zero_add]
  refine cell_blkN hq ?_
  rw [List.getElem?_toArray, bv_get l i (by omega)]
theorem isL_lt {w : World} {a : Option Addr} {n c : Nat} {L : List (List Nat)} (h : IsL w a n c L) : ∀ i x, x ∈ L.getD i [] → x < 256 := fun i x hx => by
  by_cases hi : i < n
  · obtain ⟨_, _, _, _, _, _, _, _, hB⟩ := h.2.2.2.2 i hi
    exact hB.2.2.2.1 x hx
  · rw [List.getD_eq_getElem?_getD, List.getElem?_eq_none (by rw [h.1]; omega)] at hx
    cases hx
theorem tx_lt {b : List Nat} (h : ∀ x ∈ b, x < 256) : ∀ x ∈ tx b, x < 256 := fun x hx => by
  rcases List.mem_append.1 hx with h1 | h1
  · exact num_lt _ x h1
  · exact h x h1
theorem text_lt {w : World} {v : Pv} {p : Pg} (h : IsG w v p) : ∀ x ∈ textP p, x < 256 := fun x hx => by
  unfold textP at hx
  split at hx
  · unfold ltx at hx
    simp only [List.mem_append, List.mem_cons, List.mem_flatten, List.mem_map, List.mem_range] at hx
    rcases hx with (h1 | h1) | ⟨l, ⟨j, _, rfl⟩, h1⟩
    · omega
    · exact num_lt _ x h1
    · rcases List.mem_append.1 h1 with h1 | h1
      · exact tx_lt (isL_lt h.keys j) x h1
      · exact tx_lt (isL_lt h.vals j) x h1
  · unfold itx at hx
    simp only [List.mem_append, List.mem_cons, List.mem_flatten, List.mem_map, List.mem_range] at hx
    rcases hx with ((h1 | h1) | h1) | ⟨l, ⟨j, _, rfl⟩, h1⟩
    · omega
    · exact num_lt _ x h1
    · exact num_lt _ x h1
    · rcases List.mem_append.1 h1 with h1 | h1
      · exact tx_lt (isL_lt h.keys j) x h1
      · exact num_lt _ x h1
/-- a page's bytes -/
def encP (p : Pg) : List Nat := padN 4092 (textP p) ++ le (Crc.update 0 (padN 4092 (textP p)))
theorem text_fits {p : Pg} (h : checkE p = 0) : (textP p).length ≤ 4092 ∧ 0 < (textP p).length := by
  unfold textP
  cases hl : p.leaf with
  | true =>
    rw [if_pos rfl]
    have := ltx_fits h (i := p.keys.length) (Nat.le_refl _) (by
      rcases check_kind h with h3 | h3
      · simp only [leafB, Bool.and_eq_true, decide_eq_true_eq] at h3
        omega
      · simp [innerB, hl] at h3)
    refine ⟨by omega, ?_⟩
    simp [ltx]
  | false =>
    rw [if_neg (by decide)]
    obtain ⟨h1, h2, _⟩ := inner_lens h hl
    have := itx_fits h (i := p.keys.length) (Nat.le_refl _) (by omega)
    refine ⟨by omega, ?_⟩
    simp [itx]
def TextOk (v : Pv) (p : Pg) (W : World) : Prop := Calls Try.prog 34 #[.agg (pgc p.leaf v)] W fun e w' => ∃ v', e = .returned v' ∧ w'.ownsRow W.heap.size 5 1 v' (textP p).length (bv (textP p)) ∧ Below W.heap.size W w'
set_option maxHeartbeats 1000000 in
theorem textL_any (v : Pv) (p : Pg) (w : World) (h : IsG w v p) (hE : leafE p = 0) : TextOk v p w := by
  obtain ⟨hce, hlf⟩ := leafE_0 hE
  unfold TextOk
  have HT : Hid (textP p = ltx p v.kn) := hide (by unfold textP; rw [if_pos hlf, h.keys.1])
  rw [hlf, HT.out]
  obtain ⟨V0, hV0⟩ : ∃ V0, V0 = w.alloc (.cells (pgc true v) 25) := ⟨_, rfl⟩
  have HS0 : Hid (V0.heap.size = w.heap.size + 1) := hide (by rw [hV0]; simp)
  have HB0 : Hid (Below w.heap.size w V0) := hide (by rw [hV0]; exact (Below.refl _ w).alloc (Nat.le_refl _) _)
  have HX : Hid (V0.heap[w.heap.size]? = some (.cells (pgc true v) 25 (0, 0))) := hide (by rw [hV0, heap_alloc_new])
  have HL := hide (leafText_any v p V0 (h.below HB0.out) hE true)
  clear h hE hce hlf
  obtain ⟨ka, kn, kc, va, vn, vc, ia, inn, ic⟩ := v
  try dsimp only at HX HL
  try dsimp only
  obtain ⟨q0, q1, q2, q3⟩ := BlkG.cells HX.out
  try dsimp only at q0 q1 q2 q3
  go_enter Try.func34, Try.ntmps34
  go_wp2_with fail
  try rw [← hV0]
  refine HL.out.mono ?_
  rintro e w1 ⟨v1, rfl, ho1, hb1⟩
  have HE : Hid (w1.ownsRow w.heap.size 5 1 v1 (ltx p kn).length (bv (ltx p kn)) ∧ Below w.heap.size w w1) := hide ⟨own_le ho1 (by rw [HS0.out]; omega), HB0.out.trans (hb1.mono HB0.out.size)⟩
  clear ho1 hb1 HL q0 q1 q2 q3
  go_wp2
  go_ret
  exact ⟨_, rfl, HE.out.1, HE.out.2⟩
set_option maxHeartbeats 2000000 in
theorem enc_of (v : Pv) (p : Pg) (w : World) (h : IsG w v p) (hce : checkE p = 0) (hc : FewP v) (hT : ∀ W, Below w.heap.size w W → TextOk v p W) :
    Calls Try.prog 13 #[.agg (pgc p.leaf v)] w fun e w' => ∃ g, e = .returned (.tuple #[.slice (some ⟨g, 0, none⟩) 4096 4096, .int .i64 0]) ∧ w'.ownsRow w.heap.size 5 1 (.slice (some ⟨g, 0, none⟩) 4096 4096) 4096 (bv (encP p)) ∧ Below w.heap.size w w' := by
  obtain ⟨V0, hV0⟩ : ∃ V0, V0 = w.alloc (.cells (pgc p.leaf v) 25) := ⟨_, rfl⟩
  have HS0 : Hid (V0.heap.size = w.heap.size + 1) := hide (by rw [hV0]; simp)
  have HB0 : Hid (Below w.heap.size w V0) := hide (by rw [hV0]; exact (Below.refl _ w).alloc (Nat.le_refl _) _)
  have HX : Hid (V0.heap[w.heap.size]? = some (.cells (pgc p.leaf v) 25 (0, 0))) := hide (by rw [hV0, heap_alloc_new])
  have HCK := hide (check_any v p V0 (h.below HB0.out) hc)
  rw [hce] at HCK
  have HTX := hide hT
  unfold TextOk at HTX
  have HF := hide (text_fits hce)
  have HLT := hide (text_lt h)
  obtain ⟨Z, hZ⟩ : ∃ Z, Z = (zeros 4092).toArray := ⟨_, rfl⟩
  have HZ := hide hZ
  have hmk : ∀ W : World, (Instr.makeSlice 26 (.int .i64 4092) (.int .i64 4092)).run Try.prog W = .ok (.slice (some ⟨W.heap.size, 0, none⟩) 4092 4092) (W.alloc (.cells Z 5)) := fun W => by rw [hZ]; exact run_mk W 4092 4092 (by omega) (by omega)
  have HEP : Hid (encP p = padN 4092 (textP p) ++ le (Crc.update 0 (padN 4092 (textP p)))) := hide rfl
  generalize encP p = EP at *
  generalize textP p = T at *
  generalize p.leaf = lf at *
  clear h hc hce hT hZ
  obtain ⟨ka, kn, kc, va, vn, vc, ia, inn, ic⟩ := v
  try dsimp only at HX HCK HTX
  try dsimp only
  obtain ⟨q0, q1, q2, q3⟩ := BlkG.cells HX.out
  try dsimp only at q0 q1 q2 q3
  go_enter Try.func13, Try.ntmps13
  go_wp2_with fail
  try rw [← hV0]
  refine HCK.out.mono ?_
  rintro e w1 ⟨rfl, hb1⟩
  have HB1 : Hid (Below w.heap.size w w1) := hide (HB0.out.trans (hb1.mono HB0.out.size))
  have HX1 : Hid (w1.heap[w.heap.size]? = some (.cells (pgc lf ⟨ka, kn, kc, va, vn, vc, ia, inn, ic⟩) 25 (0, 0))) := hide ((hb1.block _ (heap_ltN HX.out)).trans HX.out)
  clear hb1 HCK q0 q1 q2 q3 hV0
  obtain ⟨V1, hV1⟩ : ∃ V1, V1 = w1.alloc (.cells Z 5) := ⟨_, rfl⟩
  have HB2 : Hid (Below w.heap.size w V1) := hide (by rw [hV1]; exact HB1.out.alloc HB1.out.size _)
  have HG1 : Hid (w.heap.size < w1.heap.size) := hide (heap_ltN HX1.out)
  have HX2 : Hid (V1.heap[w.heap.size]? = some (.cells (pgc lf ⟨ka, kn, kc, va, vn, vc, ia, inn, ic⟩) 25 (0, 0))) := hide (by rw [hV1, heap_alloc_old _ _ HG1.out]; exact HX1.out)
  have HZ2 : Hid (V1.heap[w1.heap.size]? = some (.cells (zeros 4092).toArray 5 (0, 0))) := hide (by rw [hV1, ← HZ.out]; exact heap_alloc_new _ _)
  obtain ⟨q0, q1, q2, q3⟩ := BlkG.cells HX2.out
  try dsimp only at q0 q1 q2 q3
  have hmk1 := hmk w1
  rw [← hV1] at hmk1
  have HT2 := hide (HTX.out V1 HB2.out)
  clear hmk HTX hV1
  go_wp2_with fail
  refine HT2.out.mono ?_
  rintro e w2 ⟨v2, rfl, ho2, hb2⟩
  obtain ⟨a2, c2, rfl, hI2⟩ := owns_isB ho2 HLT.out
  obtain ⟨w3, hcp, hq3, hB3⟩ := cp_pad ((hb2.block _ (heap_ltN HZ2.out)).trans HZ2.out) hI2 HF.out.2 HF.out.1
  have HB3 : Hid (Below w.heap.size w w3) := hide (hB3 _ _ (HB2.out.trans (hb2.mono HB2.out.size)) (Nat.le_of_lt HG1.out))
  have HSE := hide (seal_any (some ⟨w1.heap.size, 0, none⟩) 4092 4092 (padN 4092 T) w3 (blk_isB hq3 (padN_len HF.out.1) (by omega) (padN_lt HLT.out)) (by omega))
  clear ho2 hb2 hI2 hq3 hB3 HT2 hmk1 q0 q1 q2 q3
  go_wp2_with fail
  refine HSE.out.mono ?_
  rintro e w4 ⟨g, rfl, ho4, hb4⟩
  have HE : Hid (w4.ownsRow w.heap.size 5 1 (.slice (some ⟨g, 0, none⟩) 4096 4096) 4096 (bv EP) ∧ Below w.heap.size w w4) := hide (by
    rw [HEP.out]
    exact ⟨own_le ho4 HB3.out.size, HB3.out.trans (hb4.mono HB3.out.size)⟩)
  clear ho4 hb4 HSE hcp
  go_wp2
  go_ret2
  exact ⟨g, rfl, HE.out.1, HE.out.2⟩
end Go.Proofs.Ytebikoekpbnpbaa
