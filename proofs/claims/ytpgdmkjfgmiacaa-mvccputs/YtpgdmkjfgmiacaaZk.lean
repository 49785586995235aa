/- the document's Put: accepted -/
import Derived.Test.YtpgdmkjfgmiacaaZj
namespace Go.Proofs.Ytpgdmkjfgmiacaa
open Go.RowKit Go.Shelf
theorem ref_zero2 {low : Nat} {l : List Vr} {ws : List Wt} {t : Nat} (h : refE low l ws t = 0) : goodB low l = true ∧ ¬ 4096 < ws.length ∧ ¬ ws.any longB = true ∧ ¬ twiceB ws = true ∧ (1 ≤ t ∧ t ≤ 2305843009213693952) ∧ ¬ t < low ∧ l.any (lateB t) = false ∧ ¬ 4096 < l.length + ws.length := by
  unfold refE at h
  by_cases h1 : goodB low l = true
  · rw [if_pos h1] at h
    by_cases h2 : 4096 < ws.length
    · rw [if_pos h2] at h; cases h
    rw [if_neg h2] at h
    by_cases h3 : ws.any longB = true
    · rw [if_pos h3] at h; cases h
    rw [if_neg h3] at h
    by_cases h4 : twiceB ws = true
    · rw [if_pos h4] at h; cases h
    rw [if_neg h4] at h
    by_cases h5 : timeB t = true
    · rw [if_pos h5] at h
      by_cases h6 : t < low ∨ l.any (lateB t) = true
      · rw [if_pos h6] at h; cases h
      rw [if_neg h6] at h
      by_cases h7 : 4096 < l.length + ws.length
      · rw [if_pos h7] at h; cases h
      exact ⟨h1, h2, h3, h4, by unfold timeB at h5; simpa using h5, fun x => h6 (.inl x), by simpa using fun x => h6 (.inr x), h7⟩
    · rw [if_neg h5] at h; cases h
  · rw [if_neg h1] at h; cases h
theorem isV_set2b {w : World} {a : Option Addr} {len cap g : Nat} {l : List Vr} {u v : Value} (h : IsV w a len cap l) (h2 : Two w g u v) (hu : ∀ s, u ≠ .string s) (hv : ∀ s, v ≠ .string s) (z y : Value) : IsV ((w.setCell ⟨g, 0, none⟩ z).setCell ⟨g, 1, none⟩ y) a len cap l := by
  refine ⟨h.1, h.2.1, h.2.2.1, fun i hi => ?_⟩
  obtain ⟨b, off, e, hlt, z0, z1, z2, z3⟩ := h.2.2.2 i hi
  have hne : b ≠ g := by
    rintro rfl
    simp only [World.cell?, h2] at z0
    generalize off + i * 4 = j at z0
    match j with
    | 0 => simp at z0; exact hu _ z0
    | 1 => simp at z0; exact hv _ z0
    | j + 2 => simp at z0
  have k : ∀ j, ((w.setCell ⟨g, 0, none⟩ z).setCell ⟨g, 1, none⟩ y).cell? ⟨b, j, none⟩ = w.cell? ⟨b, j, none⟩ := fun j => World.cell?_of_block ((Below.heap_setCell _ _ _ _ hne).trans (Below.heap_setCell _ _ _ _ hne))
  exact ⟨b, off, e, by simpa [World.setCell] using hlt, (k _).trans z0, (k _).trans z1, (k _).trans z2, (k _).trans z3⟩
set_option maxRecDepth 40000 in
set_option maxHeartbeats 4000000 in
theorem rput_yes (a : Option Addr) (len cap low : Nat) (l : List Vr) (aw : Option Addr) (lw cw : Nat) (ws : List Wt) (t : Nat) (w : World) (hL : IsV w a len cap l) (hW : IsW w aw lw cw ws) (hnn : a = none → cap = 0) (hE : refE low l ws t = 0) :
    Calls Try.prog 23 #[.agg #[.slice a len cap, .int .u64 (low : Nat)], .slice aw lw cw, .int .u64 (t : Nat)] w fun e w' =>
    ∃ a' c', e = .returned (.tuple #[.agg #[.slice a' (len + lw) c', .int .u64 (low : Nat)], .int .i64 0]) ∧ IsV w' a' (len + lw) c' (putL t l ws) ∧ Below w.heap.size w w' := by
  have HB5 : Hid (Below w.heap.size w ((w.alloc (.cells #[.slice a len cap, .int .u64 (low : Nat)] 25)).alloc (.cells #[.slice none 0 0, .int .u64 0] 25))) := hide (((Below.refl _ w).alloc (Nat.le_refl _) _).alloc (by simp) _)
  have bR := hide (heap_alloc_new (w.alloc (.cells #[.slice a len cap, .int .u64 (low : Nat)] 25)) (.cells #[.slice none 0 0, .int .u64 0] 25))
  have bV : Hid (Two ((w.alloc (.cells #[.slice a len cap, .int .u64 (low : Nat)] 25)).alloc (.cells #[.slice none 0 0, .int .u64 0] 25)) w.heap.size (.slice a len cap) (.int .u64 (low : Nat))) := hide ((heap_alloc_old _ _ _ (by simp)).trans (heap_alloc_new _ _))
  have HVS : Hid (((w.alloc (.cells #[.slice a len cap, .int .u64 (low : Nat)] 25)).alloc (.cells #[.slice none 0 0, .int .u64 0] 25)).heap.size = w.heap.size + 2) := hide (by simp)
  simp only [World.size_alloc] at bR
  have HV := hide (hL.below HB5.out)
  have HW := hide (hW.below HB5.out)
  have HLN := hide hL.1
  have HWN := hide hW.1
  have hcm : cap ≤ 9223372036854775807 := hL.2.2.1
  have hcap := hL.2.1
  have hcmw : cw ≤ 9223372036854775807 := hW.2.2.1
  have hcapw := hW.2.1
  clear hL hW
  go_enter Try.func23, Try.ntmps23
  go_wp2_with fail
  generalize ((w.alloc (.cells #[.slice a len cap, .int .u64 (low : Nat)] 25)).alloc (.cells #[.slice none 0 0, .int .u64 0] 25)) = V at *
  refine (rcheck_any a len cap low l V HV.out).mono ?_
  rintro e w1 ⟨rfl, hb1⟩
  have HB1 : Hid (Below (w.heap.size + 2) V w1) := hide (by rw [← HVS.out]; exact hb1)
  clear hb1
  have HT1 : Hid (Two w1 w.heap.size (.slice a len cap) (.int .u64 (low : Nat))) := hide ((HB1.out.block _ (by omega)).trans bV.out)
  obtain ⟨v0, v1⟩ := cells2_of_blk HT1.out
  unfold checkE
  obtain ⟨hg, c1, c2, c3, HC4, c7, c9, c8⟩ := ref_zero2 hE
  rw [if_pos hg]
  have HNN := hide hnn
  have hl4 : len ≤ 4096 := by rw [← HLN.out]; exact (goodB_iff.1 hg).1
  have hl5 : lw ≤ 4096 := by rw [← HWN.out]; omega
  have c8' : ¬ 4096 < len + lw := by rw [← HLN.out, ← HWN.out]; exact c8
  have HLA := hide c9
  have HC7 := hide c7
  have HC1 := hide c1
  have HC2 := hide c2
  have HC3 := hide c3
  clear c1 c2 c3
  have HC8 := hide c8'
  have HC4 := hide HC4
  clear hg hE c7 c8 c8' c9 hnn
  go_wp2_with fail
  refine (wrong_any aw lw cw ws w1 (HW.out.below (by rw [HVS.out]; exact HB1.out))).mono ?_
  rintro e w2 ⟨rfl, hb2⟩
  have HB2 : Hid (Below (w.heap.size + 2) V w2) := hide (HB1.out.trans (hb2.mono (by have := HB1.out.size; rw [HVS.out] at this; exact this)))
  clear hb2 v0 v1 HT1 HB1
  have HT2 : Hid (Two w2 w.heap.size (.slice a len cap) (.int .u64 (low : Nat))) := hide ((HB2.out.block _ (by omega)).trans bV.out)
  obtain ⟨v0, v1⟩ := cells2_of_blk HT2.out
  unfold wrongE
  rw [if_neg HC1.out, if_neg HC2.out, if_neg HC3.out]
  have c5I : ¬ (t : Int) < 1 := by have := HC4.out; omega
  have c6I : ¬ (2305843009213693952 : Int) < (t : Int) := by have := HC4.out; omega
  have c5D : decide ((t : Int) < 1) = false := decide_eq_false c5I
  have c5N : decide (t < 1) = false := decide_eq_false (by have := HC4.out; omega)
  have c50 : (t == 0) = false := by have := HC4.out; simp; omega
  have c51 : ¬ t = 0 := by have := HC4.out; omega
  have c6D : decide ((2305843009213693952 : Int) < (t : Int)) = false := decide_eq_false c6I
  have c6N : decide (2305843009213693952 < t) = false := decide_eq_false (by have := HC4.out; omega)
  go_wp2
  clear v0 v1 c5I c6I c5D c5N c50 c51 c6D c6N HT2
  go_loopw [8, 34] (fun v8 v34 wr => ∃ (k : Nat) (c : Bool), k ≤ len ∧ v8 = .int .i64 (if c = true then 9 else 0) ∧ v34 = .int .i64 (k : Nat) ∧ Hid (Below (w.heap.size + 2) V wr ∧ (l.take k).any (lateB t) = c)) (fun _ v34 _ => len - (intOf v34).toNat)
  case atStart => exact ⟨0, false, Nat.zero_le _, rfl, rfl, hide ⟨HB2.out, rfl⟩⟩
  case round =>
    obtain ⟨k, c, hk, rfl, rfl, HI⟩ := hrel
    by_cases hlt : k < len
    · obtain ⟨b, off, rfl, hbs, z0, z1, z2, z3⟩ := (HV.out.below (by rw [HVS.out]; exact HI.out.1)).2.2.2 k hlt
      have HTK := hide (late_step t l k (by rw [HLN.out]; exact hlt))
      generalize l.getD k Vr0 = x at *
      obtain ⟨x1, x2, x3, x4⟩ := x
      dsimp only at z0 z1 z2 z3 HTK
      have HBN : Hid (Below (w.heap.size + 2) V (wr.alloc (.cells #[.string x1, .int .u64 (x2 : Nat), .string x3, .bool x4] 51))) := hide (HI.out.1.alloc (by have := HI.out.1.size; rw [HVS.out] at this; exact this) _)
      have hw1 : IntKind.i64.wrap ((k : Int) + 1) = (k : Int) + 1 := wr64' (by omega) (by omega)
      have hi2 : (k : Int) < (len : Int) := by omega
      have hi4 : (0 : Int) ≤ (k : Int) := by omega
      cases c
      · simp only [Bool.false_eq_true, if_false]
        by_cases hx : t ≤ x2
        · have hxI : (t : Int) ≤ (x2 : Int) := by omega
          have HN : Hid ((l.take (k + 1)).any (lateB t) = true) := hide (by rw [HTK.out, HI.out.2, decide_eq_true hx]; rfl)
          go_wp2
          go_roundw
          case rel => exact ⟨k + 1, true, by omega, rfl, by simp, hide ⟨HBN.out, HN.out⟩⟩
          case measure => simp [intOf]; omega
        · have hxI : ¬ (t : Int) ≤ (x2 : Int) := by omega
          have HN : Hid ((l.take (k + 1)).any (lateB t) = false) := hide (by rw [HTK.out, HI.out.2, decide_eq_false hx]; rfl)
          go_wp2
          go_roundw
          case rel => exact ⟨k + 1, false, by omega, rfl, by simp, hide ⟨HBN.out, HN.out⟩⟩
          case measure => simp [intOf]; omega
      · simp only [if_true]
        have HN : Hid ((l.take (k + 1)).any (lateB t) = true) := hide (by rw [HTK.out, HI.out.2]; rfl)
        go_wp2
        go_roundw
        case rel => exact ⟨k + 1, true, by omega, rfl, by simp, hide ⟨HBN.out, HN.out⟩⟩
        case measure => simp [intOf]; omega
    obtain rfl : k = len := by omega
    have hi2 : ¬ (k : Int) < (k : Int) := by omega
    have HLT : Hid (l.any (lateB t) = c) := hide (by have := HI.out.2; rwa [← HLN.out, List.take_length] at this)
    have HBe : Hid (Below (w.heap.size + 2) V wr) := hide HI.out.1
    clear HI
    cases c
    rotate_left
    · simp only [if_true]
      exact absurd HLA.out (by rw [HLT.out]; simp)
    simp only [Bool.false_eq_true, if_false]
    have c7I : ¬ (t : Int) < (low : Int) := by have := HC7.out; omega
    have c7D : decide ((t : Int) < (low : Int)) = false := decide_eq_false c7I
    have c7N : decide (t < low) = false := decide_eq_false HC7.out
    have c8w : IntKind.i64.wrap ((k : Int) + (lw : Int)) = (k : Int) + (lw : Int) := wr64' (by omega) (by omega)
    have c8I : ¬ (4096 : Int) < (k : Int) + (lw : Int) := by have := HC8.out; omega
    have c8D : decide ((4096 : Int) < (k : Int) + (lw : Int)) = false := decide_eq_false c8I
    have c8N : decide (4096 < k + lw) = false := decide_eq_false HC8.out
    have HT4 : Hid (Two wr w.heap.size (.slice a k cap) (.int .u64 (low : Nat))) := hide ((HBe.out.block _ (by omega)).trans bV.out)
    have HV4 := hide (HV.out.below (by rw [HVS.out]; exact HBe.out))
    obtain ⟨g0, g1⟩ := cells2_of_blk HT4.out
    go_wp2_with fail
    refine (copy_some3 a k cap low l wr HV4.out (by omega) HNN.out).mono ?_
    rintro e w3 ⟨b3, o3, c3, rfl, hI3, hb3⟩
    have HB3 : Hid (Below (w.heap.size + 2) V w3) := hide (HBe.out.trans (hb3.mono (by have := HBe.out.size; rw [HVS.out] at this; exact this)))
    have HZ3 : Hid (w.heap.size + 2 ≤ w3.heap.size) := hide (by have := HB3.out.size; rw [HVS.out] at this; exact this)
    have HBa : Hid (Below w3.heap.size w3 (w3.alloc (.cells #[.slice (some ⟨b3, o3, none⟩) k c3, .int .u64 (low : Nat)] 25))) := hide ((Below.refl _ w3).alloc (Nat.le_refl _) _)
    have HU : Hid (Two (w3.alloc (.cells #[.slice (some ⟨b3, o3, none⟩) k c3, .int .u64 (low : Nat)] 25)) w3.heap.size (.slice (some ⟨b3, o3, none⟩) k c3) (.int .u64 (low : Nat))) := hide (heap_alloc_new _ _)
    have HI3 := hide (hI3.below HBa.out)
    have HB4 : Hid (Below (w.heap.size + 2) V (w3.alloc (.cells #[.slice (some ⟨b3, o3, none⟩) k c3, .int .u64 (low : Nat)] 25))) := hide (HB3.out.trans (HBa.out.mono HZ3.out))
    clear hI3 hb3 g0 g1 HT4 HV4 HBe
    go_wp2
    clear c7I c7D c7N c8I c8D c8N c8w
    generalize hBX : w3.heap.size = BX at *
    generalize w3.alloc (.cells #[.slice (some ⟨b3, o3, none⟩) k c3, .int .u64 (low : Nat)] 25) = W4 at *
    have HBX : Hid (w.heap.size + 2 ≤ BX) := HZ3
    go_loopw [74] (fun v74 wr => ∃ (m b4 o4 c4 : Nat), m ≤ lw ∧ v74 = .int .i64 (m : Nat) ∧ Hid (Below (w.heap.size + 2) V wr ∧ Two wr BX (.slice (some ⟨b4, o4, none⟩) (k + m) c4) (.int .u64 (low : Nat)) ∧ IsV wr (some ⟨b4, o4, none⟩) (k + m) c4 (putL t l (ws.take m)))) (fun v74 _ => lw - (intOf v74).toNat)
    case atStart => exact ⟨0, b3, o3, c3, Nat.zero_le _, rfl, hide ⟨HB4.out, HU.out, by simpa [putL] using HI3.out⟩⟩
    case round =>
      obtain ⟨m, b4, o4, c4, hm, rfl, HI⟩ := hrel
      have HZ : Hid (w.heap.size + 2 ≤ wr.heap.size) := hide (by have := HI.out.1.size; rw [HVS.out] at this; exact this)
      by_cases hlm : m < lw
      · obtain ⟨bw, ow, rfl, hbw, z0, z1, z2⟩ := (HW.out.below (by rw [HVS.out]; exact HI.out.1)).2.2.2 m hlm
        have HST := hide (putL_step t l ws m (by rw [HWN.out]; exact hlm))
        generalize ws.getD m Wt0 = x at *
        obtain ⟨x1, x2, x3⟩ := x
        dsimp only at z0 z1 z2
        have hw1 : IntKind.i64.wrap ((m : Int) + 1) = (m : Int) + 1 := wr64' (by omega) (by omega)
        have hi6 : (m : Int) < (lw : Int) := by omega
        have hi7 : (0 : Int) ≤ (m : Int) := by omega
        cases x3
        · have HK : Hid (Below (w.heap.size + 2) V ((wr.alloc (.cells #[.string x1, .string x2, .bool false] 46)).alloc (.cells #[.string x1, .int .u64 (t : Nat), .string x2, .bool false] 51)) ∧ Below wr.heap.size wr ((wr.alloc (.cells #[.string x1, .string x2, .bool false] 46)).alloc (.cells #[.string x1, .int .u64 (t : Nat), .string x2, .bool false] 51))) := hide ⟨(HI.out.1.alloc HZ.out _).alloc (by have := HZ.out; simp; omega) _, ((Below.refl _ wr).alloc (Nat.le_refl _) _).alloc (by simp) _⟩
          have HVn := hide (HI.out.2.2.below HK.out.2)
          have HUn : Hid (Two ((wr.alloc (.cells #[.string x1, .string x2, .bool false] 46)).alloc (.cells #[.string x1, .int .u64 (t : Nat), .string x2, .bool false] 51)) BX (.slice (some ⟨b4, o4, none⟩) (k + m) c4) (.int .u64 (low : Nat))) := hide ((HK.out.2.block _ (heap_lt HI.out.2.1)).trans HI.out.2.1)
          have HCW := hide (rwith_any b4 o4 (k + m) c4 (putL t l (ws.take m)) x1 t x2 false _ HVn.out (by omega))
          have n0 := (cells2_of_blk HUn.out).1
          go_wp2_with fail
          refine HCW.out.mono ?_
          rintro e w9 ⟨b9, o9, c9, rfl, hI9, hb9⟩
          have HU9 : Hid (Two w9 BX (.slice (some ⟨b4, o4, none⟩) (k + m) c4) (.int .u64 (low : Nat))) := hide ((hb9.block _ (heap_lt HUn.out)).trans HUn.out)
          have m0 := (cells2_of_blk HU9.out).1
          have f9 := frz HU9.out 0
          have HF9 : Hid (Below (w.heap.size + 2) V (w9.setCell ⟨BX, 0, none⟩ (.slice (some ⟨b9, o9, none⟩) (k + m + 1) c9)) ∧ Two (w9.setCell ⟨BX, 0, none⟩ (.slice (some ⟨b9, o9, none⟩) (k + m + 1) c9)) BX (.slice (some ⟨b9, o9, none⟩) (k + (m + 1)) c9) (.int .u64 (low : Nat)) ∧ IsV (w9.setCell ⟨BX, 0, none⟩ (.slice (some ⟨b9, o9, none⟩) (k + m + 1) c9)) (some ⟨b9, o9, none⟩) (k + (m + 1)) c9 (putL t l (ws.take (m + 1)))) := hide ⟨(HK.out.1.trans (hb9.mono (by have := HK.out.1.size; rw [HVS.out] at this; exact this))).setCell (p := ⟨BX, 0, none⟩) HBX.out _, by have := blk_set2 (j := 0) HU9.out (.slice (some ⟨b9, o9, none⟩) (k + m + 1) c9); simp at this; exact this, by rw [HST.out]; exact hI9.set2 HU9.out (by intro s h; cases h) (by intro s h; cases h) _⟩
          clear hI9 hb9 HCW n0 HVn HUn HK
          go_wp2
          go_roundw
          case rel => exact ⟨m + 1, b9, o9, c9, by omega, by simp, hide ⟨HF9.out.1, HF9.out.2.1, HF9.out.2.2⟩⟩
          case measure => simp [intOf]; omega
        · have HK : Hid (Below (w.heap.size + 2) V ((wr.alloc (.cells #[.string x1, .string x2, .bool true] 46)).alloc (.cells #[.string x1, .int .u64 (t : Nat), .string ⟨#[]⟩, .bool true] 51)) ∧ Below wr.heap.size wr ((wr.alloc (.cells #[.string x1, .string x2, .bool true] 46)).alloc (.cells #[.string x1, .int .u64 (t : Nat), .string ⟨#[]⟩, .bool true] 51))) := hide ⟨(HI.out.1.alloc HZ.out _).alloc (by have := HZ.out; simp; omega) _, ((Below.refl _ wr).alloc (Nat.le_refl _) _).alloc (by simp) _⟩
          have HVn := hide (HI.out.2.2.below HK.out.2)
          have HUn : Hid (Two ((wr.alloc (.cells #[.string x1, .string x2, .bool true] 46)).alloc (.cells #[.string x1, .int .u64 (t : Nat), .string ⟨#[]⟩, .bool true] 51)) BX (.slice (some ⟨b4, o4, none⟩) (k + m) c4) (.int .u64 (low : Nat))) := hide ((HK.out.2.block _ (heap_lt HI.out.2.1)).trans HI.out.2.1)
          have HCW := hide (rwith_any b4 o4 (k + m) c4 (putL t l (ws.take m)) x1 t ⟨#[]⟩ true _ HVn.out (by omega))
          have n0 := (cells2_of_blk HUn.out).1
          go_wp2_with fail
          refine HCW.out.mono ?_
          rintro e w9 ⟨b9, o9, c9, rfl, hI9, hb9⟩
          have HU9 : Hid (Two w9 BX (.slice (some ⟨b4, o4, none⟩) (k + m) c4) (.int .u64 (low : Nat))) := hide ((hb9.block _ (heap_lt HUn.out)).trans HUn.out)
          have m0 := (cells2_of_blk HU9.out).1
          have f9 := frz HU9.out 0
          have HF9 : Hid (Below (w.heap.size + 2) V (w9.setCell ⟨BX, 0, none⟩ (.slice (some ⟨b9, o9, none⟩) (k + m + 1) c9)) ∧ Two (w9.setCell ⟨BX, 0, none⟩ (.slice (some ⟨b9, o9, none⟩) (k + m + 1) c9)) BX (.slice (some ⟨b9, o9, none⟩) (k + (m + 1)) c9) (.int .u64 (low : Nat)) ∧ IsV (w9.setCell ⟨BX, 0, none⟩ (.slice (some ⟨b9, o9, none⟩) (k + m + 1) c9)) (some ⟨b9, o9, none⟩) (k + (m + 1)) c9 (putL t l (ws.take (m + 1)))) := hide ⟨(HK.out.1.trans (hb9.mono (by have := HK.out.1.size; rw [HVS.out] at this; exact this))).setCell (p := ⟨BX, 0, none⟩) HBX.out _, by have := blk_set2 (j := 0) HU9.out (.slice (some ⟨b9, o9, none⟩) (k + m + 1) c9); simp at this; exact this, by rw [HST.out]; exact hI9.set2 HU9.out (by intro s h; cases h) (by intro s h; cases h) _⟩
          clear hI9 hb9 HCW n0 HVn HUn HK
          go_wp2
          go_roundw
          case rel => exact ⟨m + 1, b9, o9, c9, by omega, by simp, hide ⟨HF9.out.1, HF9.out.2.1, HF9.out.2.2⟩⟩
          case measure => simp [intOf]; omega
      · obtain rfl : m = lw := by omega
        have hi6 : ¬ (m : Int) < (m : Int) := by omega
        have HPL : Hid (putL t l (ws.take m) = putL t l ws) := hide (by rw [← HWN.out, List.take_length])
        rw [HPL.out] at HI
        have HR4 : Hid (Two wr (w.heap.size + 1) (.slice none 0 0) (.int .u64 0)) := hide ((HI.out.1.block _ (by omega)).trans bR.out)
        obtain ⟨g0, g1⟩ := cells2_of_blk HI.out.2.1
        obtain ⟨r0, r1⟩ := cells2_of_blk HR4.out
        have f0 := frz HR4.out 0
        have f1 := frz HR4.out 1
        have HTF : Hid (Two ((wr.setCell ⟨w.heap.size + 1, 0, none⟩ (.slice (some ⟨b4, o4, none⟩) (k + m) c4)).setCell ⟨w.heap.size + 1, 1, none⟩ (.int .u64 (low : Nat))) (w.heap.size + 1) (.slice (some ⟨b4, o4, none⟩) (k + m) c4) (.int .u64 (low : Nat))) := hide (two_set HR4.out _ _)
        have HFIN : Hid (∀ (fn : Func) (tmps : Array Value) (e : Int), fn.results = #[.cell 6 25, .tmp 7] → tmps.getD 6 undef = .pointer (some ⟨w.heap.size + 1, 0, none⟩) → tmps.getD 7 undef = .int .i64 e → (results fn tmps).run Try.prog ((wr.setCell ⟨w.heap.size + 1, 0, none⟩ (.slice (some ⟨b4, o4, none⟩) (k + m) c4)).setCell ⟨w.heap.size + 1, 1, none⟩ (.int .u64 (low : Nat))) = .ok (.tuple #[.agg #[.slice (some ⟨b4, o4, none⟩) (k + m) c4, .int .u64 (low : Nat)], .int .i64 e]) ((wr.setCell ⟨w.heap.size + 1, 0, none⟩ (.slice (some ⟨b4, o4, none⟩) (k + m) c4)).setCell ⟨w.heap.size + 1, 1, none⟩ (.int .u64 (low : Nat)))) := hide (fun fn tmps e h1 h2 h3 => by
          rw [res25 h1 tmps _ _ _ _ HTF.out h2, h3])
        have HBF : Hid (Below w.heap.size w ((wr.setCell ⟨w.heap.size + 1, 0, none⟩ (.slice (some ⟨b4, o4, none⟩) (k + m) c4)).setCell ⟨w.heap.size + 1, 1, none⟩ (.int .u64 (low : Nat)))) := hide (((HB5.out.trans (HI.out.1.mono (by omega))).setCell (p := ⟨w.heap.size + 1, 0, none⟩) (by show _ ≤ w.heap.size + 1; omega) _).setCell (p := ⟨w.heap.size + 1, 1, none⟩) (by show _ ≤ w.heap.size + 1; omega) _)
        have HIF : Hid (IsV ((wr.setCell ⟨w.heap.size + 1, 0, none⟩ (.slice (some ⟨b4, o4, none⟩) (k + m) c4)).setCell ⟨w.heap.size + 1, 1, none⟩ (.int .u64 (low : Nat))) (some ⟨b4, o4, none⟩) (k + m) c4 (putL t l ws)) := hide (isV_set2b HI.out.2.2 HR4.out (by intro s h; cases h) (by intro s h; cases h) _ _)
        clear HI
        go_wp2
        refine bodyPost_ret (HFIN.out Try.f23 _ 0 rfl rfl rfl) rfl ?_
        exact ⟨_, _, rfl, HIF.out, HBF.out⟩
theorem rput_any (a : Option Addr) (len cap low : Nat) (l : List Vr) (aw : Option Addr) (lw cw : Nat) (ws : List Wt) (t : Nat) (w : World) (hL : IsV w a len cap l) (hW : IsW w aw lw cw ws) (hnn : a = none → cap = 0) :
    Calls Try.prog 23 #[.agg #[.slice a len cap, .int .u64 (low : Nat)], .slice aw lw cw, .int .u64 (t : Nat)] w fun e w' =>
    ∃ a' c', e = .returned (.tuple #[.agg #[.slice a' (putR low l ws t).1.length c', .int .u64 ((putR low l ws t).2.1 : Nat)], .int .i64 (putR low l ws t).2.2]) ∧ IsV w' a' (putR low l ws t).1.length c' (putR low l ws t).1 ∧ Below w.heap.size w w' := by
  unfold putR
  by_cases hE : refE low l ws t = 0
  · simp only [if_pos hE]
    refine (rput_yes a len cap low l aw lw cw ws t w hL hW hnn hE).mono ?_
    rintro e w' ⟨a', c', rfl, hI, hb⟩
    have e : len + lw = (putL t l ws).length := hI.1.symm
    rw [e] at hI ⊢
    exact ⟨a', c', rfl, hI, hb⟩
  · simp only [if_neg hE]
    refine (rput_no a len cap low l aw lw cw ws t w hL hW hE).mono ?_
    rintro e w' ⟨rfl, hb⟩
    exact ⟨none, 0, rfl, ⟨rfl, Nat.le_refl _, Nat.zero_le _, fun i hi => absurd hi (Nat.not_lt_zero _)⟩, hb⟩
end Go.Proofs.Ytpgdmkjfgmiacaa
