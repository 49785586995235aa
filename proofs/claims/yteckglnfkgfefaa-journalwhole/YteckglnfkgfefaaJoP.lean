/- lives -/
import Derived.Test.YteckglnfkgfefaaJoD
import Derived.Test.YteckglnfkgfefaaJoN
import Derived.Test.YteckglnfkgfefaaJoM
import Derived.Test.YteckglnfkgfefaaJoK
namespace Go.Proofs.Yteckglnfkgfefaa
open Go.RowKit Cod
set_option maxRecDepth 40000
set_option linter.unusedSimpArgs false
set_option linter.unusedVariables false
def sA : ByteArray := ⟨#[97]⟩
def sB : ByteArray := ⟨#[98]⟩
theorem frA_length (x : ByteArray) (h : x.size = 1) (s : Nat) : (frL [x] s).length = 1 := by
  rw [frL_length]
  have : (batL [x]).length = 3 := by
    have e1 : (num 1).length = 1 := by rw [num_small (by decide)]; rfl
    simp only [batL, recL, List.length_append, List.length_cons, List.length_nil, bl_length, h, e1]
  rw [this]
  rfl
theorem okA (x : ByteArray) (h : x.size = 1) : okB [x] := ⟨by simp, fun r hr => by rw [List.mem_singleton.1 hr, h]; omega⟩
theorem bat_one {rd : Nat → List Nat} {x : ByteArray} {s m : Nat} (hx : x.size = 1) (h : rd s = (frL [x] s).getD 0 []) (hm : 1 ≤ m) : Bat rd s m [x] 1 := by
  have hl := frA_length x hx s
  have t1 := bat_of (rd := rd) (rs := [x]) (s := s) (m := m) (okA x hx) (fun i hi => by
    have : i = 0 := by omega
    subst this
    exact h) (by omega)
  rw [hl] at t1
  exact t1
theorem liv : ∃ st1 st2, Jn.append 8 [sA] ⟨2, 4, 1, 1, false⟩ st0 = (⟨2, 4, 1, 2, false⟩, st1, 0) ∧ Jn.append 8 [sB] ⟨2, 4, 1, 2, false⟩ st1 = (⟨2, 4, 1, 3, false⟩, st2, 0) ∧ st1.wr = 1 ∧ st2.down = false ∧ Run ((⟨2, 4, 1, 1, false⟩ : Jn).rd st2) (1 + 4) 1 [[sA], [sB]] 3 := by
  have hA := frA_length sA rfl 1
  have hB := frA_length sB rfl 2
  obtain ⟨st1, a1, a2, a3, a4, a5, a6, a7, a8, a9⟩ := append_up (n := 8) (rs := [sA]) (j := ⟨2, 4, 1, 1, false⟩) (st := st0) rfl rfl rfl (by decide) (by decide) (okA sA rfl) rfl (by show (frL [sA] 1).length ≤ 4; omega)
  dsimp only at a1 a4 a7 a8 a9
  rw [hA] at a1 a4 a7 a8 a9
  obtain ⟨st2, b1, b2, b3, b4, b5, b6, b7, b8, b9⟩ := append_up (n := 8) (rs := [sB]) (j := ⟨2, 4, 1, 2, false⟩) (st := st1) a2 a3 rfl (by decide) (by decide) (okA sB rfl) rfl (by show (frL [sB] 2).length ≤ 3; omega)
  dsimp only at b1 b4 b7 b8 b9
  rw [hB] at b1 b4 b7 b8 b9
  refine ⟨st1, st2, a1, b1, a4, b2, ?_⟩
  have h1 : (⟨2, 4, 1, 1, false⟩ : Jn).rd st2 1 = (frL [sA] 1).getD 0 [] := by
    have e1 := a7 0 (by omega)
    have e2 := b8 1 (by omega) (by omega) (by omega) (by omega)
    exact e2.trans e1
  have h2 : (⟨2, 4, 1, 1, false⟩ : Jn).rd st2 2 = (frL [sB] 2).getD 0 [] := b7 0 (by omega)
  have h3 : (⟨2, 4, 1, 1, false⟩ : Jn).rd st2 3 = full [] := by
    have e1 := b8 3 (by omega) (by omega) (by omega) (by omega)
    have e2 := a8 3 (by omega) (by omega) (by omega) (by omega)
    exact e1.trans (e2.trans rfl)
  have t1 := bat_one (rd := (⟨2, 4, 1, 1, false⟩ : Jn).rd st2) (x := sA) (s := 1) (m := 1 + 4 - 1) rfl h1 (by omega)
  have t2 := bat_one (rd := (⟨2, 4, 1, 1, false⟩ : Jn).rd st2) (x := sB) (s := 2) (m := 1 + 4 - (1 + 1)) rfl h2 (by omega)
  exact ⟨1, t1, 1, t2, rfl, no_bat_first (by rw [show 1 + 1 + 1 = 3 from rfl, h3]; decide)⟩
theorem isT_one (w : World) (x : ByteArray) : IsT (w.alloc (.cells #[.string x] 9)) (some ⟨w.heap.size, 0, none⟩) 1 1 [x] := by
  refine ⟨rfl, Nat.le_refl _, by unfold maxLen; omega, .inr ⟨_, 0, rfl, by simp, fun i hi => ?_⟩⟩
  have : i = 0 := by omega
  subst this
  exact cell_bk (heap_alloc_new w (.cells #[.string x] 9)) rfl
theorem isTT_one (w : World) (x : ByteArray) : IsTT (w.alloc (.cells #[.string x] 9)) (.slice (some ⟨w.heap.size, 0, none⟩) 1 1) [x] :=
  ⟨_, _, rfl, isT_one w x, fun b off e => by cases e; exact ⟨_, _, heap_alloc_new w _⟩⟩
theorem OwnLL.isLL {w : World} {B : Nat} {v : Value} {l : List (List ByteArray)} (h : OwnLL w B v l) : ∃ a cap, v = .slice a l.length cap ∧ IsLL w a l.length cap l := by
  obtain ⟨vs, ho, hl⟩ := h
  rcases ho.2 with ⟨rfl, h0⟩ | ⟨g, cap, cur, rfl, hb, hg, hn, hc, hs, ht⟩
  · exact ⟨none, 0, by rw [h0], rfl, by omega, Nat.zero_le _, .inl h0⟩
  · refine ⟨some ⟨g, 0, none⟩, cap, rfl, rfl, hn, hc, .inr ⟨g, 0, rfl, heap_lt hg, fun i hi => ?_⟩⟩
    obtain ⟨u, e1, hu⟩ := hl i hi
    refine ⟨u, ?_, hu⟩
    have := ho.cells (g := g) rfl i u e1
    rw [Addr.add_lit] at this
    exact this
theorem isLL_two (w : World) (x y : ByteArray) : IsLL (((w.alloc (.cells #[.string x] 9)).alloc (.cells #[.string y] 9)).alloc (.cells #[.slice (some ⟨w.heap.size, 0, none⟩) 1 1, .slice (some ⟨w.heap.size + 1, 0, none⟩) 1 1] 22)) (some ⟨w.heap.size + 1 + 1, 0, none⟩) 2 2 [[x], [y]] := by
  have b1 : Below (w.alloc (.cells #[.string x] 9)).heap.size (w.alloc (.cells #[.string x] 9)) ((w.alloc (.cells #[.string x] 9)).alloc (.cells #[.string y] 9)) := (Below.refl _ _).alloc (Nat.le_refl _) _
  have b2 : Below ((w.alloc (.cells #[.string x] 9)).alloc (.cells #[.string y] 9)).heap.size ((w.alloc (.cells #[.string x] 9)).alloc (.cells #[.string y] 9)) (((w.alloc (.cells #[.string x] 9)).alloc (.cells #[.string y] 9)).alloc (.cells #[.slice (some ⟨w.heap.size, 0, none⟩) 1 1, .slice (some ⟨w.heap.size + 1, 0, none⟩) 1 1] 22)) := (Below.refl _ _).alloc (Nat.le_refl _) _
  have i1 := ((isTT_one w x).kept (K9.below b1)).kept (K9.below b2)
  have i2 := (isTT_one (w.alloc (.cells #[.string x] 9)) y).kept (K9.below b2)
  have hn := heap_alloc_new ((w.alloc (.cells #[.string x] 9)).alloc (.cells #[.string y] 9)) (.cells #[.slice (some ⟨w.heap.size, 0, none⟩) 1 1, .slice (some ⟨w.heap.size + 1, 0, none⟩) 1 1] 22)
  simp only [World.size_alloc] at hn i2
  refine ⟨rfl, Nat.le_refl _, by unfold maxLen; omega, .inr ⟨_, 0, rfl, by simp, fun i hi => ?_⟩⟩
  match i, hi with
  | 0, _ => exact ⟨_, cell_bk hn rfl, i1⟩
  | 1, _ => exact ⟨_, cell_bk hn rfl, i2⟩
  | i + 2, hi => omega
set_option maxHeartbeats 4000000 in
theorem lives_any (w : World) : Calls Try.prog 14 #[] w fun e w' => e = .returned (.bool true) ∧ Below w.heap.size w w' := by
  obtain ⟨st1, st2, hA, hB, hw1, hd2, hrun⟩ := liv
  have HA := hide hA
  have HB := hide hB
  have HRUN := hide hrun
  have HD2 := hide hd2
  have HW1 := hide hw1
  clear hA hB hrun hd2 hw1
  go_enter Try.func14, Try.ntmps14
  go_wp2_with fail
  refine (new_ok (X := NoX) w 8 (by omega) (by omega) (fun i h => h.elim)).mono ?_
  rintro e w1 ⟨g, gs, b, rfl, hd1, hb1, hsd⟩
  have HD1 := hide hd1
  have HB1 := hide hb1
  have HSD := hide hsd
  have HO1 := hide (open_ok (X := NoX) w1 g gs b 8 st0 hd1 rfl 2 4 1 (by omega) (by omega) (by omega) (by omega) [] 1 ⟨rfl, no_bat_first (by decide)⟩)
  clear hd1 hb1 hsd
  go_wp2_with fail
  refine HO1.out.mono ?_
  rintro e w2 ⟨gj, v2, rfl, hg2, hj2, hl2, hb2⟩
  have HD2' := hide (HD1.out.below hb2)
  have HJ2 := hide hj2
  have HGJ : Hid (w.heap.size ≤ gj) := hide (Nat.le_trans HB1.out.size hg2)
  have HB2 : Hid (Below w.heap.size w w2) := hide (HB1.out.trans (hb2.mono HB1.out.size))
  clear hj2 hl2 hb2 hg2 HO1 HD1
  have HAP := hide (append_any (X := NoX) (w2.alloc (.cells #[.string ⟨#[97]⟩] 9)) gj g gs b 8 ⟨2, 4, 1, 1, false⟩ st0 _ 1 1 [sA] (HJ2.out.below ((Below.refl _ _).alloc (Nat.le_refl _) _)) (HD2'.out.below ((Below.refl _ _).alloc (Nat.le_refl _) _)) (isT_one w2 sA) (by show (0 : Nat) < _; omega))
  rw [HA.out] at HAP
  have HBA : Hid (Below w.heap.size w (w2.alloc (.cells #[.string ⟨#[97]⟩] 9))) := hide (HB2.out.alloc HB2.out.size _)
  go_wp2_with fail
  refine HAP.out.mono ?_
  rintro e w3 ⟨rfl, hd3, hj3, hf3⟩
  have HD3 := hide hd3
  have HJ3 := hide hj3
  have HB3 : Hid (Below w.heap.size w w3) := hide (HBA.out.trans (hf3.toBelow HBA.out.size (fun i hi => hi.elim (fun e => by rw [e]; exact HGJ.out) (fun e => HSD.out i e))))
  dsimp only at HD3 HJ3 ⊢
  clear hd3 hj3 hf3 HAP HBA HB2 HJ2 HD2'
  have HAP := hide (append_any (X := NoX) (w3.alloc (.cells #[.string ⟨#[98]⟩] 9)) gj g gs b 8 ⟨2, 4, 1, 2, false⟩ st1 _ 1 1 [sB] (HJ3.out.below ((Below.refl _ _).alloc (Nat.le_refl _) _)) (HD3.out.below ((Below.refl _ _).alloc (Nat.le_refl _) _)) (isT_one w3 sB) (by rw [HW1.out]; omega))
  rw [HB.out] at HAP
  have HBA : Hid (Below w.heap.size w (w3.alloc (.cells #[.string ⟨#[98]⟩] 9))) := hide (HB3.out.alloc HB3.out.size _)
  go_wp2_with fail
  refine HAP.out.mono ?_
  rintro e w4 ⟨rfl, hd4, hj4, hf4⟩
  have HD4 := hide hd4
  have HJ4 := hide hj4
  have HB4 : Hid (Below w.heap.size w w4) := hide (HBA.out.trans (hf4.toBelow HBA.out.size (fun i hi => hi.elim (fun e => by rw [e]; exact HGJ.out) (fun e => HSD.out i e))))
  dsimp only at HD4 HJ4 ⊢
  clear hd4 hj4 hf4 HAP HBA HB3 HJ3 HD3
  have HO4 := hide (open_ok (X := NoX) w4 g gs b 8 st2 HD4.out HD2.out 2 4 1 (by omega) (by omega) (by omega) (by omega) _ 3 HRUN.out)
  go_wp2_with fail
  refine HO4.out.mono ?_
  rintro e w5 ⟨gk, v5, rfl, hg5, hk5, hl5, hb5⟩
  have HK5 := hide hk5
  have HJ5 := hide (HJ4.out.below hb5)
  have HB5 : Hid (Below w.heap.size w w5) := hide (HB4.out.trans (hb5.mono HB4.out.size))
  obtain ⟨a5, c5, hv5, hL5⟩ := hl5.isLL
  have hv5' : v5 = .slice a5 2 c5 := hv5
  subst hv5'
  have HL5 := hide hL5
  clear hk5 hg5 hl5 hb5 HO4 hv5 hL5
  go_wp2_with fail
  have hIL := isLL_two w5 ⟨#[97]⟩ ⟨#[98]⟩
  have hbV : Below w5.heap.size w5 (((w5.alloc (.cells #[.string ⟨#[97]⟩] 9)).alloc (.cells #[.string ⟨#[98]⟩] 9)).alloc (.cells #[.slice (some ⟨w5.heap.size, 0, none⟩) 1 1, .slice (some ⟨w5.heap.size + 1, 0, none⟩) 1 1] 22)) := (((Below.refl _ _).alloc (Nat.le_refl _) _).alloc (by simp) _).alloc (by simp; omega) _
  generalize (((w5.alloc (.cells #[.string ⟨#[97]⟩] 9)).alloc (.cells #[.string ⟨#[98]⟩] 9)).alloc (.cells #[.slice (some ⟨w5.heap.size, 0, none⟩) 1 1, .slice (some ⟨w5.heap.size + 1, 0, none⟩) 1 1] 22)) = V at *
  refine (sameLL_any a5 2 c5 [[sA], [sB]] _ 2 V (HL5.out.below hbV) hIL).mono ?_
  rintro e w6 ⟨rfl, hb6⟩
  have hb56 : Below w5.heap.size w5 w6 := hbV.trans (hb6.mono hbV.size)
  have HB6 : Hid (Below w.heap.size w w6) := hide (HB5.out.trans (hb56.mono HB5.out.size))
  have HJ6 := hide (HJ5.out.below hb56)
  have HK6 := hide (HK5.out.below hb56)
  clear hb6 hbV hb56 hIL
  go_wp2_with fail
  refine (next_any w6 gj g _ HJ6.out).mono ?_
  rintro e w7 ⟨rfl, rfl⟩
  go_wp2_with fail
  refine (room_any w7 gj g _ HJ6.out).mono ?_
  rintro e w8 ⟨rfl, hb8⟩
  have HB8 : Hid (Below w.heap.size w w8) := hide (HB6.out.trans (hb8.mono HB6.out.size))
  have HK8 := hide (HK6.out.below hb8)
  clear hb8
  go_wp2_with fail
  refine (next_any w8 gk g _ HK8.out).mono ?_
  rintro e w9 ⟨rfl, rfl⟩
  go_wp2_with fail
  go_ret
  exact ⟨rfl, HB8.out⟩
end Go.Proofs.Yteckglnfkgfefaa
