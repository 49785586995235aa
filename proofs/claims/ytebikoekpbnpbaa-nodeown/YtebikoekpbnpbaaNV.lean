/- two, lives -/
import Derived.Test.YtebikoekpbnpbaaNU
import Derived.Test.YtebikoekpbnpbaaNQ
namespace Go.Proofs.Ytebikoekpbnpbaa
open Go.RowKit Go.Lib Cod
set_option maxRecDepth 100000
set_option linter.unusedVariables false
set_option linter.unusedSimpArgs false
theorem heap_al (W : World) (o : Obj) (k : Nat) : (W.alloc o).heap[k]? = if k = W.heap.size then some o else W.heap[k]? := by
  show (W.heap.push o)[k]? = _
  rw [Array.getElem?_push]
theorem cell_atN {W : World} {b k : Nat} {C : Array Value} {t : TypeId} {f : Nat × Nat} {x : Value} (h : W.heap[b]? = some (.cells C t f)) (hx : C[k]? = some x) : W.cell? ⟨b, k, none⟩ = some x := by
  simp [World.cell?, h, hx]
/-- the leaf of a: 1, b: 2 -/
def twoP : Pg := ⟨true, [[97], [98]], [[49], [50]], []⟩
theorem lit_isB {W : World} {b x : Nat} {f : Nat × Nat} (h : W.heap[b]? = some (.cells #[.int .u8 (x : Nat)] 5 f)) (hx : x < 256) : IsB W (some ⟨b, 0, none⟩) 1 1 [x] := by
  refine ⟨rfl, Nat.le_refl _, by unfold maxLen; omega, fun y hy => by rw [List.mem_singleton.1 hy]; exact hx, .inr ⟨b, 0, rfl, heap_ltN h, fun i hi => ?_⟩⟩
  have e : i = 0 := by omega
  subst e
  exact cell_atN h rfl
theorem two_row {W : World} {b b1 b2 x1 x2 : Nat} (h : W.heap[b]? = some (.cells #[.slice (some ⟨b1, 0, none⟩) 1 1, .slice (some ⟨b2, 0, none⟩) 1 1] 26 (0, 0))) (h1 : IsB W (some ⟨b1, 0, none⟩) 1 1 [x1]) (h2 : IsB W (some ⟨b2, 0, none⟩) 1 1 [x2]) : IsL W (some ⟨b, 0, none⟩) 2 2 [[x1], [x2]] := by
  refine ⟨rfl, Nat.le_refl _, by unfold maxLen; omega, nofun, fun i hi => ?_⟩
  rcases (by omega : i = 0 ∨ i = 1) with rfl | rfl
  · exact ⟨b, 0, _, _, _, rfl, heap_ltN h, cell_atN h rfl, h1⟩
  · exact ⟨b, 0, _, _, _, rfl, heap_ltN h, cell_atN h rfl, h2⟩
set_option maxHeartbeats 1000000 in
theorem two_any (w : World) : Calls Try.prog 41 #[] w fun e w' => ∃ v, e = .returned (.agg (pgc true v)) ∧ IsG w' v twoP ∧ FewP v ∧ v.kn = 2 ∧ Below w.heap.size w w' := by
  have k0 : (convert 26 26 (.slice (some ⟨w.heap.size + 1, 0, none⟩) 1 1)).run Try.prog ((w.alloc (.cells #[.bool false, .slice none 0 0, .slice none 0 0, .slice none 0 0] 25)).alloc (.cells #[.int .u8 97] 5)) = .ok (.slice (some ⟨w.heap.size + 1, 0, none⟩) 1 1) ((w.alloc (.cells #[.bool false, .slice none 0 0, .slice none 0 0, .slice none 0 0] 25)).alloc (.cells #[.int .u8 97] 5 (1, 2))) := by
    have := Go.Lib.run_convert_bytes_const (P := Try.prog) (w.alloc (.cells #[.bool false, .slice none 0 0, .slice none 0 0, .slice none 0 0] 25)) 26 5 #[.int .u8 97] 1 1 Try.underlying26 Try.underlying5
    simp only [World.size_alloc] at this
    exact this
  have k1 : (convert 26 26 (.slice (some ⟨w.heap.size + 1 + 1, 0, none⟩) 1 1)).run Try.prog (((w.alloc (.cells #[.bool false, .slice none 0 0, .slice none 0 0, .slice none 0 0] 25)).alloc (.cells #[.int .u8 97] 5 (1, 2))).alloc (.cells #[.int .u8 98] 5)) = .ok (.slice (some ⟨w.heap.size + 1 + 1, 0, none⟩) 1 1) (((w.alloc (.cells #[.bool false, .slice none 0 0, .slice none 0 0, .slice none 0 0] 25)).alloc (.cells #[.int .u8 97] 5 (1, 2))).alloc (.cells #[.int .u8 98] 5 (1, 2))) := by
    have := Go.Lib.run_convert_bytes_const (P := Try.prog) ((w.alloc (.cells #[.bool false, .slice none 0 0, .slice none 0 0, .slice none 0 0] 25)).alloc (.cells #[.int .u8 97] 5 (1, 2))) 26 5 #[.int .u8 98] 1 1 Try.underlying26 Try.underlying5
    simp only [World.size_alloc] at this
    exact this
  have k2 : (convert 26 26 (.slice (some ⟨w.heap.size + 1 + 1 + 1 + 1, 0, none⟩) 1 1)).run Try.prog (((((w.alloc (.cells #[.bool false, .slice none 0 0, .slice none 0 0, .slice none 0 0] 25)).alloc (.cells #[.int .u8 97] 5 (1, 2))).alloc (.cells #[.int .u8 98] 5 (1, 2))).alloc (.cells #[.slice (some ⟨w.heap.size + 1, 0, none⟩) 1 1, .slice (some ⟨w.heap.size + 1 + 1, 0, none⟩) 1 1] 26)).alloc (.cells #[.int .u8 49] 5)) = .ok (.slice (some ⟨w.heap.size + 1 + 1 + 1 + 1, 0, none⟩) 1 1) (((((w.alloc (.cells #[.bool false, .slice none 0 0, .slice none 0 0, .slice none 0 0] 25)).alloc (.cells #[.int .u8 97] 5 (1, 2))).alloc (.cells #[.int .u8 98] 5 (1, 2))).alloc (.cells #[.slice (some ⟨w.heap.size + 1, 0, none⟩) 1 1, .slice (some ⟨w.heap.size + 1 + 1, 0, none⟩) 1 1] 26)).alloc (.cells #[.int .u8 49] 5 (1, 2))) := by
    have := Go.Lib.run_convert_bytes_const (P := Try.prog) ((((w.alloc (.cells #[.bool false, .slice none 0 0, .slice none 0 0, .slice none 0 0] 25)).alloc (.cells #[.int .u8 97] 5 (1, 2))).alloc (.cells #[.int .u8 98] 5 (1, 2))).alloc (.cells #[.slice (some ⟨w.heap.size + 1, 0, none⟩) 1 1, .slice (some ⟨w.heap.size + 1 + 1, 0, none⟩) 1 1] 26)) 26 5 #[.int .u8 49] 1 1 Try.underlying26 Try.underlying5
    simp only [World.size_alloc] at this
    exact this
  have k3 : (convert 26 26 (.slice (some ⟨w.heap.size + 1 + 1 + 1 + 1 + 1, 0, none⟩) 1 1)).run Try.prog ((((((w.alloc (.cells #[.bool false, .slice none 0 0, .slice none 0 0, .slice none 0 0] 25)).alloc (.cells #[.int .u8 97] 5 (1, 2))).alloc (.cells #[.int .u8 98] 5 (1, 2))).alloc (.cells #[.slice (some ⟨w.heap.size + 1, 0, none⟩) 1 1, .slice (some ⟨w.heap.size + 1 + 1, 0, none⟩) 1 1] 26)).alloc (.cells #[.int .u8 49] 5 (1, 2))).alloc (.cells #[.int .u8 50] 5)) = .ok (.slice (some ⟨w.heap.size + 1 + 1 + 1 + 1 + 1, 0, none⟩) 1 1) ((((((w.alloc (.cells #[.bool false, .slice none 0 0, .slice none 0 0, .slice none 0 0] 25)).alloc (.cells #[.int .u8 97] 5 (1, 2))).alloc (.cells #[.int .u8 98] 5 (1, 2))).alloc (.cells #[.slice (some ⟨w.heap.size + 1, 0, none⟩) 1 1, .slice (some ⟨w.heap.size + 1 + 1, 0, none⟩) 1 1] 26)).alloc (.cells #[.int .u8 49] 5 (1, 2))).alloc (.cells #[.int .u8 50] 5 (1, 2))) := by
    have := Go.Lib.run_convert_bytes_const (P := Try.prog) (((((w.alloc (.cells #[.bool false, .slice none 0 0, .slice none 0 0, .slice none 0 0] 25)).alloc (.cells #[.int .u8 97] 5 (1, 2))).alloc (.cells #[.int .u8 98] 5 (1, 2))).alloc (.cells #[.slice (some ⟨w.heap.size + 1, 0, none⟩) 1 1, .slice (some ⟨w.heap.size + 1 + 1, 0, none⟩) 1 1] 26)).alloc (.cells #[.int .u8 49] 5 (1, 2))) 26 5 #[.int .u8 50] 1 1 Try.underlying26 Try.underlying5
    simp only [World.size_alloc] at this
    exact this
  obtain ⟨V, hV⟩ : ∃ V, V = (((((((w.alloc (.cells #[.bool true, .slice (some ⟨w.heap.size + 1 + 1 + 1, 0, none⟩) 2 2, .slice (some ⟨w.heap.size + 1 + 1 + 1 + 1 + 1 + 1, 0, none⟩) 2 2, .slice none 0 0] 25)).alloc (.cells #[.int .u8 97] 5 (1, 2))).alloc (.cells #[.int .u8 98] 5 (1, 2))).alloc (.cells #[.slice (some ⟨w.heap.size + 1, 0, none⟩) 1 1, .slice (some ⟨w.heap.size + 1 + 1, 0, none⟩) 1 1] 26)).alloc (.cells #[.int .u8 49] 5 (1, 2))).alloc (.cells #[.int .u8 50] 5 (1, 2))).alloc (.cells #[.slice (some ⟨w.heap.size + 1 + 1 + 1 + 1, 0, none⟩) 1 1, .slice (some ⟨w.heap.size + 1 + 1 + 1 + 1 + 1, 0, none⟩) 1 1] 26)) := ⟨_, rfl⟩
  have j0 : V.heap[w.heap.size]? = some (.cells #[.bool true, .slice (some ⟨w.heap.size + 1 + 1 + 1, 0, none⟩) 2 2, .slice (some ⟨w.heap.size + 1 + 1 + 1 + 1 + 1 + 1, 0, none⟩) 2 2, .slice none 0 0] 25) := by
    rw [hV]
    simp only [heap_al, World.size_alloc]
    generalize w.heap.size = s
    repeat (first | rw [if_pos trivial] | rw [if_pos (by omega)] | rw [if_neg (by omega)])
  have j1 : V.heap[w.heap.size + 1]? = some (.cells #[.int .u8 97] 5 (1, 2)) := by
    rw [hV]
    simp only [heap_al, World.size_alloc]
    generalize w.heap.size = s
    repeat (first | rw [if_pos trivial] | rw [if_pos (by omega)] | rw [if_neg (by omega)])
  have j2 : V.heap[w.heap.size + 1 + 1]? = some (.cells #[.int .u8 98] 5 (1, 2)) := by
    rw [hV]
    simp only [heap_al, World.size_alloc]
    generalize w.heap.size = s
    repeat (first | rw [if_pos trivial] | rw [if_pos (by omega)] | rw [if_neg (by omega)])
  have j3 : V.heap[w.heap.size + 1 + 1 + 1]? = some (.cells #[.slice (some ⟨w.heap.size + 1, 0, none⟩) 1 1, .slice (some ⟨w.heap.size + 1 + 1, 0, none⟩) 1 1] 26) := by
    rw [hV]
    simp only [heap_al, World.size_alloc]
    generalize w.heap.size = s
    repeat (first | rw [if_pos trivial] | rw [if_pos (by omega)] | rw [if_neg (by omega)])
  have j4 : V.heap[w.heap.size + 1 + 1 + 1 + 1]? = some (.cells #[.int .u8 49] 5 (1, 2)) := by
    rw [hV]
    simp only [heap_al, World.size_alloc]
    generalize w.heap.size = s
    repeat (first | rw [if_pos trivial] | rw [if_pos (by omega)] | rw [if_neg (by omega)])
  have j5 : V.heap[w.heap.size + 1 + 1 + 1 + 1 + 1]? = some (.cells #[.int .u8 50] 5 (1, 2)) := by
    rw [hV]
    simp only [heap_al, World.size_alloc]
    generalize w.heap.size = s
    repeat (first | rw [if_pos trivial] | rw [if_pos (by omega)] | rw [if_neg (by omega)])
  have j6 : V.heap[w.heap.size + 1 + 1 + 1 + 1 + 1 + 1]? = some (.cells #[.slice (some ⟨w.heap.size + 1 + 1 + 1 + 1, 0, none⟩) 1 1, .slice (some ⟨w.heap.size + 1 + 1 + 1 + 1 + 1, 0, none⟩) 1 1] 26) := by
    rw [hV]
    simp only [heap_al, World.size_alloc]
    generalize w.heap.size = s
    repeat (first | rw [if_pos trivial] | rw [if_pos (by omega)] | rw [if_neg (by omega)])
  have HE : Hid (IsG V ⟨some ⟨w.heap.size + 1 + 1 + 1, 0, none⟩, 2, 2, some ⟨w.heap.size + 1 + 1 + 1 + 1 + 1 + 1, 0, none⟩, 2, 2, none, 0, 0⟩ twoP ∧ Below w.heap.size w V) := hide ⟨⟨two_row j3 (lit_isB j1 (by decide)) (lit_isB j2 (by decide)), two_row j6 (lit_isB j4 (by decide)) (lit_isB j5 (by decide)), isK_nil _⟩, by
    rw [hV]
    refine Below.alloc (Below.alloc (Below.alloc (Below.alloc (Below.alloc (Below.alloc (Below.alloc (Below.refl _ w) ?_ _) ?_ _) ?_ _) ?_ _) ?_ _) ?_ _) ?_ _
    all_goals first | exact Nat.le_refl _ | (simp only [World.size_alloc]; omega)⟩
  have J0 := hide j0
  clear j0 j1 j2 j3 j4 j5 j6
  go_enter Try.func41, Try.ntmps41
  go_wp2
  rw [← hV]
  (try simp only [Exit.inBlock, Exit.then])
  refine bodyPost_ret (resP1 rfl _ V w.heap.size _ J0.out rfl rfl) rfl ?_
  exact ⟨_, rfl, HE.out.1, by unfold FewP; dsimp only; omega, rfl, HE.out.2⟩
theorem checkTwo : checkE twoP = 0 := by first | decide | kernel_rfl | rfl
theorem leafTwo : leafE twoP = 0 := by unfold leafE; rw [checkTwo]; rfl
theorem findTwo : findR twoP [98] = (1, true, 0) := by unfold findR; rw [checkTwo]; first | decide | kernel_rfl | rfl
theorem sizeTwo : sizeE twoP = 14 := by first | decide | kernel_rfl | rfl
def inP : Pg := ⟨false, [[97]], [], [1, 2]⟩
theorem putIn : putR inP [] [] = (Pg0, 15) := by
  have h : checkE inP = 0 := by first | decide | kernel_rfl | rfl
  have h2 : leafE inP = 15 := by unfold leafE; rw [h]; rfl
  unfold putR
  rw [h2, if_neg (by decide)]
theorem split_two (v : Pv) (w : World) (h : IsG w v twoP) (hk : v.kn = 2) (hc : FewP v) :
    Calls Try.prog 29 #[.agg (pgc true v)] w fun e w' => ∃ (v1 v2 : Pv) (xa : Option Addr) (xc : Nat), e = .returned (.tuple #[.agg (pgc true v1), .slice xa 1 xc, .agg (pgc true v2), .int .i64 0]) ∧ v2.kn = 1 ∧ IsB w' xa 1 xc [98] ∧ Below w.heap.size w w' := by
  refine (splitL_any v twoP w h (by omega) leafTwo hc).mono ?_
  rintro e w' ⟨k, v1, v2, xa, xc, rfl, hkk, hn1, hn2, hB, _, hb⟩
  have e0 : k = 0 := by omega
  subst e0
  refine ⟨v1, v2, xa, xc, rfl, ?_, hB, hb⟩
  have := hn2.keys.is.1
  rw [← this, hk]
  rfl
set_option maxHeartbeats 4000000 in
theorem lives_any (w : World) : Calls Try.prog 17 #[] w fun e w' => e = .returned (.bool true) ∧ Below w.heap.size w w' := by
  go_enter Try.func17, Try.ntmps17
  go_wp2_with fail
  refine (two_any w).mono ?_
  rintro e w1 ⟨v1, rfl, hG1, hF1, hk1, hb1⟩
  have k1 : (convert 26 26 (.slice (some ⟨w1.heap.size, 0, none⟩) 1 1)).run Try.prog (w1.alloc (.cells #[.int .u8 98] 5)) = .ok (.slice (some ⟨w1.heap.size, 0, none⟩) 1 1) (w1.alloc (.cells #[.int .u8 98] 5 (1, 2))) := Go.Lib.run_convert_bytes_const (P := Try.prog) w1 26 5 #[.int .u8 98] 1 1 Try.underlying26 Try.underlying5
  have hb2 : Below w1.heap.size w1 (w1.alloc (.cells #[.int .u8 98] 5 (1, 2))) := (Below.refl _ w1).alloc (Nat.le_refl _) _
  have HF := hide (find_any v1 twoP (some ⟨w1.heap.size, 0, none⟩) 1 1 [98] (w1.alloc (.cells #[.int .u8 98] 5 (1, 2))) (hG1.below hb2) hF1 (lit_isB (x := 98) (heap_alloc_new w1 _) (by decide)))
  rw [findTwo] at HF
  have HB2 : Hid (Below w.heap.size w (w1.alloc (.cells #[.int .u8 98] 5 (1, 2)))) := hide (hb1.trans (hb2.mono hb1.size))
  clear hG1 hF1 hk1 hb1 hb2
  go_wp2_with fail
  refine HF.out.mono ?_
  rintro e w2 ⟨rfl, hb3⟩
  have HB3 : Hid (Below w.heap.size w w2) := hide (HB2.out.trans (hb3.mono HB2.out.size))
  clear HF hb3 k1 HB2
  go_wp2_with fail
  refine (two_any w2).mono ?_
  rintro e w3 ⟨v3, rfl, hG3, hF3, hk3, hb4⟩
  have HS := hide (split_two v3 w3 hG3 hk3 hF3)
  have HB4 : Hid (Below w.heap.size w w3) := hide (HB3.out.trans (hb4.mono HB3.out.size))
  clear hG3 hF3 hk3 hb4 HB3
  go_wp2_with fail
  refine HS.out.mono ?_
  rintro e w4 ⟨v5, v6, xa, xc, rfl, hk6, hX, hb5⟩
  obtain ⟨V4, hV4⟩ : ∃ V4, V4 = (w4.alloc (.cells (pgc true v5) 25)).alloc (.cells (pgc true v6) 25) := ⟨_, rfl⟩
  have HB5 : Hid (Below w4.heap.size w4 V4) := hide (by rw [hV4]; exact ((Below.refl _ w4).alloc (Nat.le_refl _) _).alloc (by simp) _)
  have HX5 : Hid (V4.heap[w4.heap.size + 1]? = some (.cells (pgc true v6) 25 (0, 0))) := hide (by
    rw [hV4]
    have := heap_alloc_new (w4.alloc (.cells (pgc true v5) 25)) (.cells (pgc true v6) 25)
    rwa [World.size_alloc] at this)
  have HX4 := hide (hX.below HB5.out)
  have HK6 := hide hk6
  have HB6 : Hid (Below w.heap.size w V4) := hide ((HB4.out.trans (hb5.mono HB4.out.size)).trans (HB5.out.mono (HB4.out.trans (hb5.mono HB4.out.size)).size))
  clear hX hk6 hb5 HS HB5 HB4
  go_wp2_with fail
  rw [← hV4]
  clear hV4
  refine (two_any V4).mono ?_
  rintro e w5 ⟨v7, rfl, hG7, hF7, hk7, hb7⟩
  have HE := hide (enc_of v7 twoP w5 hG7 checkTwo hF7 (fun W hW => textL_any v7 twoP W (hG7.below hW) leafTwo))
  have HX6 := hide (HX4.out.below hb7)
  have HX7 : Hid (w5.heap[w4.heap.size + 1]? = some (.cells (pgc true v6) 25 (0, 0))) := hide ((hb7.block _ (heap_ltN HX5.out)).trans HX5.out)
  have HB7 : Hid (Below w.heap.size w w5) := hide (HB6.out.trans (hb7.mono HB6.out.size))
  clear hG7 hF7 hk7 hb7 HX4 HX5 HB6
  go_wp2_with fail
  refine HE.out.mono ?_
  rintro e w6 ⟨g6, rfl, _, hb8⟩
  have HX8 := hide (HX6.out.below hb8)
  have HX9 : Hid (w6.heap[w4.heap.size + 1]? = some (.cells (pgc true v6) 25 (0, 0))) := hide ((hb8.block _ (heap_ltN HX7.out)).trans HX7.out)
  have HB8 : Hid (Below w.heap.size w w6) := hide (HB7.out.trans (hb8.mono HB7.out.size))
  clear hb8 HE HX6 HX7 HB7
  have k6 : (convert 26 26 (.slice (some ⟨w6.heap.size, 0, none⟩) 1 1)).run Try.prog (w6.alloc (.cells #[.int .u8 97] 5)) = .ok (.slice (some ⟨w6.heap.size, 0, none⟩) 1 1) (w6.alloc (.cells #[.int .u8 97] 5 (1, 2))) := Go.Lib.run_convert_bytes_const (P := Try.prog) w6 26 5 #[.int .u8 97] 1 1 Try.underlying26 Try.underlying5
  obtain ⟨V6, hV6⟩ : ∃ V6, V6 = ((w6.alloc (.cells #[.int .u8 97] 5 (1, 2))).alloc (.cells #[.slice (some ⟨w6.heap.size, 0, none⟩) 1 1] 26)).alloc (.cells #[.int .i64 1, .int .i64 2] 3) := ⟨_, rfl⟩
  have hb9 : Below w6.heap.size w6 V6 := by
    rw [hV6]
    exact (((Below.refl _ w6).alloc (Nat.le_refl _) _).alloc (by simp) _).alloc (by simp; omega) _
  have j0 : V6.heap[w6.heap.size]? = some (.cells #[.int .u8 97] 5 (1, 2)) := by
    rw [hV6]
    simp only [heap_al, World.size_alloc, if_true]
    generalize w6.heap.size = s
    repeat (first | rw [if_pos trivial] | rw [if_pos (by omega)] | rw [if_neg (by omega)])
  have j1 : V6.heap[w6.heap.size + 1]? = some (.cells #[.slice (some ⟨w6.heap.size, 0, none⟩) 1 1] 26 (0, 0)) := by
    rw [hV6]
    simp only [heap_al, World.size_alloc, if_true]
    generalize w6.heap.size = s
    repeat (first | rw [if_pos trivial] | rw [if_pos (by omega)] | rw [if_neg (by omega)])
  have j2 : V6.heap[w6.heap.size + 1 + 1]? = some (.cells #[.int .i64 1, .int .i64 2] 3 (0, 0)) := by
    rw [hV6]
    simp only [heap_al, World.size_alloc, if_true]
    try (generalize w6.heap.size = s; repeat (first | rw [if_pos trivial] | rw [if_pos (by omega)] | rw [if_neg (by omega)]))
  have HP := hide (put_any ⟨some ⟨w6.heap.size + 1, 0, none⟩, 1, 1, none, 0, 0, some ⟨w6.heap.size + 1 + 1, 0, none⟩, 2, 2⟩ inP none 0 0 [] none 0 0 [] V6 ⟨⟨rfl, Nat.le_refl _, by unfold maxLen; dsimp only; omega, nofun, fun i hi => by
      dsimp only at hi
      have e : i = 0 := by omega
      subst e
      exact ⟨_, 0, _, _, _, rfl, heap_ltN j1, cell_atN j1 rfl, lit_isB (x := 97) j0 (by decide)⟩⟩, isL_nil _, ⟨rfl, Nat.le_refl _, by unfold maxLen; dsimp only; omega, nofun, fun i hi => by
      dsimp only at hi
      rcases (by omega : i = 0 ∨ i = 1) with rfl | rfl
      · exact ⟨by unfold i64B; decide, _, 0, rfl, heap_ltN j2, cell_atN j2 rfl⟩
      · exact ⟨by unfold i64B; decide, _, 0, rfl, heap_ltN j2, cell_atN j2 rfl⟩⟩⟩ (by unfold FewP; dsimp only; omega) ⟨rfl, Nat.le_refl _, Nat.zero_le _, nofun, .inl ⟨rfl, fun _ => rfl⟩⟩ ⟨rfl, Nat.le_refl _, Nat.zero_le _, nofun, .inl ⟨rfl, fun _ => rfl⟩⟩)
  rw [putIn] at HP
  have HXa := hide (HX8.out.below hb9)
  have HXb : Hid (V6.heap[w4.heap.size + 1]? = some (.cells (pgc true v6) 25 (0, 0))) := hide ((hb9.block _ (heap_ltN HX9.out)).trans HX9.out)
  have HB9 : Hid (Below w.heap.size w V6) := hide (HB8.out.trans (hb9.mono HB8.out.size))
  clear hb9 j0 j1 j2 HX8 HX9 HB8
  go_wp2_with fail
  rw [← hV6]
  clear hV6 k6
  refine HP.out.mono ?_
  rintro e w7 ⟨v8, rfl, _, hba⟩
  obtain ⟨V7, hV7⟩ : ∃ V7, V7 = w7.alloc (.cells (pgc Pg0.leaf v8) 25) := ⟨_, rfl⟩
  have hbb : Below V6.heap.size V6 V7 := by rw [hV7]; exact hba.alloc hba.size _
  have HXc := hide (HXa.out.below hbb)
  have HXd : Hid (V7.heap[w4.heap.size + 1]? = some (.cells (pgc true v6) 25 (0, 0))) := hide ((hbb.block _ (heap_ltN HXb.out)).trans HXb.out)
  have HBa : Hid (Below w.heap.size w V7) := hide (HB9.out.trans (hbb.mono HB9.out.size))
  clear hba hbb HXa HXb HB9 HP
  go_wp2_with fail
  rw [← hV7]
  clear hV7
  refine (two_any V7).mono ?_
  rintro e w8 ⟨v9, rfl, hG9, hF9, hk9, hbc⟩
  have HZ := hide (size_any v9 twoP w8 hG9 hF9)
  rw [sizeTwo] at HZ
  have HXe := hide (HXc.out.below hbc)
  have HXf : Hid (w8.heap[w4.heap.size + 1]? = some (.cells (pgc true v6) 25 (0, 0))) := hide ((hbc.block _ (heap_ltN HXd.out)).trans HXd.out)
  have HBb : Hid (Below w.heap.size w w8) := hide (HBa.out.trans (hbc.mono HBa.out.size))
  clear hG9 hF9 hk9 hbc HXc HXd HBa
  go_wp2_with fail
  refine HZ.out.mono ?_
  rintro e w9 ⟨rfl, hbd⟩
  have hcv : (convert 26 9 (.slice xa 1 xc)).run Try.prog w9 = .ok (.string ⟨#[98]⟩) w9 := conv_str (HXe.out.below hbd)
  have hcl : w9.cell? ⟨w4.heap.size + 1, 1, none⟩ = some (.slice v6.ka 1 v6.kc) := by
    have := cell_atN ((hbd.block _ (heap_ltN HXf.out)).trans HXf.out) (k := 1) (x := .slice v6.ka v6.kn v6.kc) rfl
    rw [HK6.out] at this
    exact this
  have HBc : Hid (Below w.heap.size w w9) := hide (HBb.out.trans (hbd.mono HBb.out.size))
  clear hbd HXe HXf HBb HZ HK6
  go_wp2
  go_ret
  exact ⟨rfl, HBc.out⟩
end Go.Proofs.Ytebikoekpbnpbaa
