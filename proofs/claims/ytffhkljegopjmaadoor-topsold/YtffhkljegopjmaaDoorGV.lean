/- Void, Capture, Pay -/
import Derived.Test.YtffhkljegopjmaaDoorGU
namespace Go.Proofs.YtffhkljegopjmaaDoor.Lg
open Go.RowKit
set_option maxRecDepth 40000
set_option maxHeartbeats 4000000 in
theorem capture_wrong (a : Option Addr) (len cap : Nat) (P : List Py) (a2 : Option Addr) (len2 cap2 : Nat) (G : List Pg) (n : Int) (w : World) (h : IsP w a len cap P) (h2 : IsG w a2 len2 cap2 G) (hc : ¬ checkR P G) :
    Calls Tryd.prog 10 #[vb a len cap a2 len2 cap2, .int .i64 n] w fun e w' => Below w.heap.size w w' ∧ e = .returned (.tuple #[vb none 0 0 none 0 0, .int .i64 0, .int .i64 9]) := by
  have HP := hide h
  have HG := hide h2
  obtain ⟨k1, k2, k3, k4⟩ := w0b_facts w (.slice a len cap) (.slice a2 len2 cap2)
  have HST := hide (settle_wrong a len cap P a2 len2 cap2 G n 3 _ (h.below' k1) (h2.below' k1) hc)
  have HK := hide (And.intro k1 (And.intro k2 (And.intro k3 k4)))
  clear h h2 k1 k2 k3 k4
  go_enter Tryd.func10, Tryd.ntmps10
  refine wp_seq_k (fun K0 hK0 => ?_)
  have HK0 := hide hK0
  clear hK0
  go_wp2
  refine HK0.out _ _ ?_
  clear HK0
  obtain ⟨b1, b2⟩ := HK.out.2.1.cells
  go_wp2_with fail
  refine HST.out.mono ?_
  rintro e w1 ⟨hb1, rfl⟩
  have HB1 : Hid (Below w.heap.size w w1) := hide (HK.out.1.trans (hb1.mono HK.out.1.size))
  have HR1 := hide (HK.out.2.2.1.below (heap_lt HK.out.2.2.1) hb1)
  have hrl : w.heap.size + 1 < (W0b w (.slice a len cap) (.slice a2 len2 cap2)).heap.size := by rw [HK.out.2.2.2]; omega
  have hsz := HK.out.1.size
  clear hb1 HK HST b1 b2
  generalize (W0b w (.slice a len cap) (.slice a2 len2 cap2)).heap.size = N0 at *
  obtain ⟨r1, r2⟩ := HR1.out.cells
  have fr0 := HR1.out.froz
  go_wp2
  refine bodyPost_ret (res3b rfl _ ((w1.setCell ⟨w.heap.size + 1, 0, none⟩ (.slice none 0 0)).setCell ⟨w.heap.size + 1, 1, none⟩ (.slice none 0 0)) (w.heap.size + 1) (.slice none 0 0) (.slice none 0 0) (put2b_blk HR1.out _ _) rfl) rfl ?_
  exact ⟨put2b_below HB1.out (by omega) _ _, rfl⟩
set_option maxHeartbeats 4000000 in
theorem capture_any (a : Option Addr) (len cap : Nat) (A P : List Py) (a2 : Option Addr) (len2 cap2 : Nat) (G : List Pg) (n : Int) (w : World) (h : IsP w a len cap P) (h2 : IsG w a2 len2 cap2 G) (hA : BksA A P G) :
    Calls Tryd.prog 10 #[vb a len cap a2 len2 cap2, .int .i64 n] w (SetP (setE A G n 3) (pvA A n).op (A.set n.toNat (behR (pvA A n) ⟨n, 2, 3, (pvA A n).op⟩)) (G ++ [⟨n, 2, 3, (pvA A n).op⟩]) w) := by
  have HP := hide h
  have HG := hide h2
  obtain ⟨k1, k2, k3, k4⟩ := w0b_facts w (.slice a len cap) (.slice a2 len2 cap2)
  have HST := hide (settle_any a len cap A P a2 len2 cap2 G n 3 _ (h.below' k1) (h2.below' k1) hA (by decide))
  have HK := hide (And.intro k1 (And.intro k2 (And.intro k3 k4)))
  clear h h2 k1 k2 k3 k4
  go_enter Tryd.func10, Tryd.ntmps10
  refine wp_seq_k (fun K0 hK0 => ?_)
  have HK0 := hide hK0
  clear hK0
  go_wp2
  refine HK0.out _ _ ?_
  clear HK0
  obtain ⟨b1, b2⟩ := HK.out.2.1.cells
  go_wp2_with fail
  refine HST.out.mono ?_
  generalize setE A G n 3 = E0 at *
  generalize A.set n.toNat (behR (pvA A n) ⟨n, 2, 3, (pvA A n).op⟩) = A1 at *
  generalize G ++ [⟨n, 2, 3, (pvA A n).op⟩] = GW at *
  generalize (pvA A n).op = V0 at *
  rintro e w1 ⟨hb1, hcase⟩
  have HB1 : Hid (Below w.heap.size w w1) := hide (HK.out.1.trans (hb1.mono HK.out.1.size))
  have HR1 := hide (HK.out.2.2.1.below (heap_lt HK.out.2.2.1) hb1)
  have hrl : w.heap.size + 1 < (W0b w (.slice a len cap) (.slice a2 len2 cap2)).heap.size := by rw [HK.out.2.2.2]; omega
  have hsz := HK.out.1.size
  clear hb1 HK HST b1 b2
  generalize (W0b w (.slice a len cap) (.slice a2 len2 cap2)).heap.size = N0 at *
  obtain ⟨r1, r2⟩ := HR1.out.cells
  have fr0 := HR1.out.froz
  rcases hcase with ⟨hx, rfl⟩ | ⟨hx, a', c', b', d', rfl, hi1, hi2, hi3, hi4, hi5⟩
  · have HX := hide hx
    clear hx
    go_wp2
    refine bodyPost_ret (res3b rfl _ ((w1.setCell ⟨w.heap.size + 1, 0, none⟩ (.slice none 0 0)).setCell ⟨w.heap.size + 1, 1, none⟩ (.slice none 0 0)) (w.heap.size + 1) (.slice none 0 0) (.slice none 0 0) (put2b_blk HR1.out _ _) rfl) rfl ?_
    exact ⟨put2b_below HB1.out (by omega) _ _, .inl ⟨HX.out, rfl⟩⟩
  · have HX := hide hx
    have HI1 := hide hi1
    have HI2 := hide hi2
    have HBK := hide hi3
    have HN1 := hide hi4
    have HN2 := hide hi5
    clear hx hi1 hi2 hi3 hi4 hi5
    go_wp2
    refine bodyPost_ret (res3b rfl _ ((w1.setCell ⟨w.heap.size + 1, 0, none⟩ (.slice a' (A1.filter keepB).length c')).setCell ⟨w.heap.size + 1, 1, none⟩ (.slice b' GW.length d')) (w.heap.size + 1) (.slice a' (A1.filter keepB).length c') (.slice b' GW.length d') (put2b_blk HR1.out _ _) rfl) rfl ?_
    exact ⟨put2b_below HB1.out (by omega) _ _, .inr ⟨HX.out, a', c', b', d', rfl, (HI1.out.off HN1.out hrl _).off HN1.out hrl _, (HI2.out.off HN2.out hrl _).off HN2.out hrl _, HBK.out, HN1.out.mono hsz, HN2.out.mono hsz⟩⟩
/-- what Pay has of an order -/
def payV (A : List Py) (n : Int) : Py := if noneB (atA A n) = true then Py0 else atA A n
theorem res2p {fn : Func} {p u : Tmp} (h : fn.results = #[.cell p 47, .tmp u]) (tmps : Array Value) (W : World) (B : Nat) (x : Py) (hb : BlkP W B x) (hp : tmps.getD p undef = .pointer (some ⟨B, 0, none⟩)) :
    (results fn tmps).run Tryd.prog W = .ok (.tuple #[vp x, tmps.getD u undef]) W := by
  rw [results_cell_tmp h, hp]
  have hl := run_loadVar_row (P := Tryd.prog) W B 47 47 _ (0, 0) _ hb Tryd.underlying47 rfl (by kernel_rfl)
  simp [asAddr, Result.andThen, hl]
abbrev W0p (w : World) (s1 s2 : Value) : World := (w.alloc (.cells #[s1, s2] 35)).alloc (.cells #[.int .i64 0, .int .i64 0, .int .i64 0, .int .i64 0] 47)
theorem w0p_facts (w : World) (s1 s2 : Value) : Below w.heap.size w (W0p w s1 s2) ∧ BlkB (W0p w s1 s2) w.heap.size s1 s2 ∧ BlkP (W0p w s1 s2) (w.heap.size + 1) ⟨0, 0, 0, 0⟩ ∧ (W0p w s1 s2).heap.size = w.heap.size + 2 := by
  refine ⟨((Below.refl _ _).alloc (Nat.le_refl _) _).alloc (by simp) _, (Below.heap_alloc _ _ _ (by simp)).trans (heap_alloc_new _ _), ?_, by simp⟩
  have := heap_alloc_new (w.alloc (.cells #[s1, s2] 35)) (.cells #[.int .i64 0, .int .i64 0, .int .i64 0, .int .i64 0] 47)
  rwa [show (w.alloc (.cells #[s1, s2] 35)).heap.size = w.heap.size + 1 by simp] at this
set_option maxHeartbeats 4000000 in
theorem pay_wrong (a : Option Addr) (len cap : Nat) (P : List Py) (a2 : Option Addr) (len2 cap2 : Nat) (G : List Pg) (n : Int) (w : World) (h : IsP w a len cap P) (h2 : IsG w a2 len2 cap2 G) (hc : ¬ checkR P G) :
    Calls Tryd.prog 15 #[vb a len cap a2 len2 cap2, .int .i64 n] w fun e w' => Below w.heap.size w w' ∧ e = .returned (.tuple #[vp Py0, .int .i64 9]) := by
  have HP := hide h
  have HG := hide h2
  obtain ⟨k1, k2, k3, k4⟩ := w0p_facts w (.slice a len cap) (.slice a2 len2 cap2)
  have HBG := hide (begin_any a len cap P a2 len2 cap2 G n _ (h.below' k1) (h2.below' k1))
  have HK := hide (And.intro k1 (And.intro k2 (And.intro k3 k4)))
  clear h h2 k1 k2 k3 k4
  go_enter Tryd.func15, Tryd.ntmps15
  refine wp_seq_k (fun K0 hK0 => ?_)
  have HK0 := hide hK0
  clear hK0
  go_wp2
  refine HK0.out _ _ ?_
  clear HK0
  refine wp_seq_k (fun K1 hK1 => ?_)
  have HK1 := hide hK1
  clear hK1
  obtain ⟨b1, b2⟩ := HK.out.2.1.cells
  go_wp2_with fail
  refine HBG.out.mono ?_
  rintro e w1 hbeg
  obtain ⟨hb1, rfl⟩ := beg_wrong hc _ _ _ _ _ _ hbeg
  clear hbeg hc
  have HB1 : Hid (Below w.heap.size w w1) := hide (HK.out.1.trans (hb1.mono HK.out.1.size))
  have HR1 := hide (HK.out.2.2.1.below (heap_lt HK.out.2.2.1) hb1)
  clear hb1 HK HBG b1 b2
  go_wp2
  generalize hW2 : w1.alloc (.cells #[.slice none 0 0, .slice none 0 0, .int .i64 0, .int .i64 0, .int .i64 0, .int .i64 0, .int .i64 0, .int .i64 0] 66) = W2
  have HB2 : Hid (Below w.heap.size w W2) := hide (hW2 ▸ HB1.out.alloc HB1.out.size _)
  have HR2 : Hid (BlkP W2 (w.heap.size + 1) ⟨0, 0, 0, 0⟩) := hide (hW2 ▸ (Below.heap_alloc _ _ _ (heap_lt HR1.out)).trans HR1.out)
  clear hW2 HB1 HR1
  obtain ⟨r1, r2, r3, r4⟩ := HR2.out.cells
  simp only [Nat.zero_add] at r1 r2 r3 r4
  have fr0 := HR2.out.froz
  refine HK1.out _ _ ?_
  clear HK1
  go_wp2
  refine bodyPost_ret (res2p rfl _ (put4 W2 (w.heap.size + 1) ⟨0, 0, 0, 0⟩) (w.heap.size + 1) ⟨0, 0, 0, 0⟩ (put4_blk HR2.out _) rfl) rfl ?_
  exact ⟨put4_below HB2.out (by omega) ⟨0, 0, 0, 0⟩, rfl⟩
set_option maxHeartbeats 4000000 in
theorem pay_any (a : Option Addr) (len cap : Nat) (A P : List Py) (a2 : Option Addr) (len2 cap2 : Nat) (G : List Pg) (n : Int) (w : World) (h : IsP w a len cap P) (h2 : IsG w a2 len2 cap2 G) (hA : BksA A P G) :
    Calls Tryd.prog 15 #[vb a len cap a2 len2 cap2, .int .i64 n] w fun e w' => Below w.heap.size w w' ∧ ((ordB n = false ∧ e = .returned (.tuple #[vp Py0, .int .i64 2])) ∨ (ordB n = true ∧ e = .returned (.tuple #[vp (payV A n), .int .i64 0]))) := by
  have HPV : Hid (pvA A n = if noneB (atA A n) = true then ⟨n, 0, 0, 0⟩ else atA A n) := hide rfl
  have HPY : Hid (payV A n = if noneB (atA A n) = true then Py0 else atA A n) := hide rfl
  have HNO := hide (fun W => nothing_any (pvA A n) W)
  have HP := hide h
  have HG := hide h2
  obtain ⟨k1, k2, k3, k4⟩ := w0p_facts w (.slice a len cap) (.slice a2 len2 cap2)
  have HBG := hide (begin_any a len cap P a2 len2 cap2 G n _ (h.below' k1) (h2.below' k1))
  have HK := hide (And.intro k1 (And.intro k2 (And.intro k3 k4)))
  clear h h2 k1 k2 k3 k4
  go_enter Tryd.func15, Tryd.ntmps15
  refine wp_seq_k (fun K0 hK0 => ?_)
  have HK0 := hide hK0
  clear hK0
  go_wp2
  refine HK0.out _ _ ?_
  clear HK0
  refine wp_seq_k (fun K1 hK1 => ?_)
  have HK1 := hide hK1
  clear hK1
  obtain ⟨b1, b2⟩ := HK.out.2.1.cells
  go_wp2_with fail
  refine HBG.out.mono ?_
  rintro e w1 hbeg
  obtain ⟨hb1, ⟨rfl, ho⟩ | ⟨rfl, ho⟩⟩ := beg_right hA _ _ _ _ _ _ hbeg
  · have HO := hide ho
    clear hbeg hA ho HPV HPY HNO
    have HB1 : Hid (Below w.heap.size w w1) := hide (HK.out.1.trans (hb1.mono HK.out.1.size))
    have HR1 := hide (HK.out.2.2.1.below (heap_lt HK.out.2.2.1) hb1)
    clear hb1 HK HBG b1 b2
    go_wp2
    generalize hW2 : w1.alloc (.cells #[.slice none 0 0, .slice none 0 0, .int .i64 0, .int .i64 0, .int .i64 0, .int .i64 0, .int .i64 0, .int .i64 0] 66) = W2
    have HB2 : Hid (Below w.heap.size w W2) := hide (hW2 ▸ HB1.out.alloc HB1.out.size _)
    have HR2 : Hid (BlkP W2 (w.heap.size + 1) ⟨0, 0, 0, 0⟩) := hide (hW2 ▸ (Below.heap_alloc _ _ _ (heap_lt HR1.out)).trans HR1.out)
    clear hW2 HB1 HR1
    obtain ⟨r1, r2, r3, r4⟩ := HR2.out.cells
    simp only [Nat.zero_add] at r1 r2 r3 r4
    have fr0 := HR2.out.froz
    refine HK1.out _ _ ?_
    clear HK1
    go_wp2
    refine bodyPost_ret (res2p rfl _ (put4 W2 (w.heap.size + 1) ⟨0, 0, 0, 0⟩) (w.heap.size + 1) ⟨0, 0, 0, 0⟩ (put4_blk HR2.out _) rfl) rfl ?_
    exact ⟨put4_below HB2.out (by omega) ⟨0, 0, 0, 0⟩, .inl ⟨HO.out, rfl⟩⟩
  · have HO := hide ho
    clear hbeg hA ho
    have HB1 : Hid (Below w.heap.size w w1) := hide (HK.out.1.trans (hb1.mono HK.out.1.size))
    have HR1 := hide (HK.out.2.2.1.below (heap_lt HK.out.2.2.1) hb1)
    clear hb1 HK HBG b1 b2
    have HNN : Hid (noneB (pvA A n) = noneB (atA A n)) := hide (by
      rw [HPV.out]
      split
      case isTrue h => rw [h]; rfl
      case isFalse => rfl)
    generalize payV A n = Y0 at *
    generalize atA A n = x0 at *
    rcases hq : pvA A n with ⟨q1, q2, q3, q4⟩
    rw [hq] at HPV HNO HNN
    clear hq
    generalize lowP P n = lo at *
    generalize hiP P n = hi at *
    go_wp2
    generalize hW2 : w1.alloc (.cells #[.slice a len cap, .slice a2 len2 cap2, .int .i64 q1, .int .i64 q2, .int .i64 q3, .int .i64 q4, .int .i64 (lo : Int), .int .i64 (hi : Int)] 66) = W2
    have HB2 : Hid (Below w.heap.size w W2) := hide (hW2 ▸ HB1.out.alloc HB1.out.size _)
    have HR2 : Hid (BlkP W2 (w.heap.size + 1) ⟨0, 0, 0, 0⟩) := hide (hW2 ▸ (Below.heap_alloc _ _ _ (heap_lt HR1.out)).trans HR1.out)
    have HC2 : Hid (BlkC W2 w1.heap.size ⟨.slice a len cap, .slice a2 len2 cap2, ⟨q1, q2, q3, q4⟩, (lo : Int), (hi : Int)⟩) := hide (hW2 ▸ heap_alloc_new _ _)
    generalize w1.heap.size = gC at *
    clear hW2 HB1 HR1
    obtain ⟨c1, c2, c3, c4, c5, c6, c7, c8⟩ := HC2.out.cells
    dsimp only at c1 c2 c3 c4 c5 c6 c7 c8
    refine HK1.out _ _ ?_
    clear HK1
    go_wp2_with fail
    refine (HNO.out _).mono ?_
    rintro e w3 ⟨rfl, hb3⟩
    have HB3 : Hid (Below w.heap.size w w3) := hide (HB2.out.trans (hb3.mono HB2.out.size))
    have HR3 := hide (HR2.out.below (heap_lt HR2.out) hb3)
    have HC3 := hide (HC2.out.below (heap_lt HC2.out) hb3)
    clear hb3 HB2 HR2 HC2 HNO c1 c2 c3 c4 c5 c6 c7 c8
    obtain ⟨r1, r2, r3, r4⟩ := HR3.out.cells
    simp only [Nat.zero_add] at r1 r2 r3 r4
    have fr0 := HR3.out.froz
    obtain ⟨c1, c2, c3, c4, c5, c6, c7, c8⟩ := HC3.out.cells
    dsimp only at c1 c2 c3 c4 c5 c6 c7 c8
    cases hN : noneB ⟨q1, q2, q3, q4⟩
    · have HEQ : Hid (Y0 = ⟨q1, q2, q3, q4⟩) := hide (by
        have h1 : noneB x0 = false := by rw [← HNN.out]; exact hN
        rw [HPY.out, HPV.out, h1]
        rfl)
      clear hN HNN HPY HPV
      go_wp2
      refine bodyPost_ret (res2p rfl _ (put4 w3 (w.heap.size + 1) ⟨q1, q2, q3, q4⟩) (w.heap.size + 1) ⟨q1, q2, q3, q4⟩ (put4_blk HR3.out _) rfl) rfl ?_
      exact ⟨put4_below HB3.out (by omega) ⟨q1, q2, q3, q4⟩, .inr ⟨HO.out, by rw [HEQ.out]; rfl⟩⟩
    · have HEQ : Hid (Y0 = ⟨0, 0, 0, 0⟩) := hide (by
        have h1 : noneB x0 = true := by rw [← HNN.out]; exact hN
        rw [HPY.out, h1]
        rfl)
      clear hN HNN HPY HPV
      go_wp2
      refine bodyPost_ret (res2p rfl _ (put4 w3 (w.heap.size + 1) ⟨0, 0, 0, 0⟩) (w.heap.size + 1) ⟨0, 0, 0, 0⟩ (put4_blk HR3.out _) rfl) rfl ?_
      exact ⟨put4_below HB3.out (by omega) ⟨0, 0, 0, 0⟩, .inr ⟨HO.out, by rw [HEQ.out]; rfl⟩⟩
end Go.Proofs.YtffhkljegopjmaaDoor.Lg
