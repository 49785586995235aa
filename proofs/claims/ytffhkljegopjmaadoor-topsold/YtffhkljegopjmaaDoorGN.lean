/- begin -/
import Derived.Test.YtffhkljegopjmaaDoorGM
namespace Go.Proofs.YtffhkljegopjmaaDoor.Lg
open Go.RowKit
set_option maxRecDepth 40000
/-- the change that begin answers -/
def begOk (s1 s2 : Value) (P : List Py) (n : Int) : Cg := ⟨s1, s2, if hasP P n = true then P.getD (lowP P n) Py0 else ⟨n, 0, 0, 0⟩, (lowP P n : Int), if hasP P n = true then (lowP P n : Int) + 1 else (lowP P n : Int)⟩
def BegP (s1 s2 : Value) (P : List Py) (G : List Pg) (n : Int) (w : World) (e : Ending) (w' : World) : Prop :=
  Below w.heap.size w w' ∧ ((e = .returned (.tuple #[vcg Cg0, .int .i64 9]) ∧ ¬ checkR P G) ∨ (e = .returned (.tuple #[vcg Cg0, .int .i64 2]) ∧ checkR P G ∧ ordB n = false) ∨ (e = .returned (.tuple #[vcg (begOk s1 s2 P n), .int .i64 0]) ∧ checkR P G ∧ ordB n = true))
abbrev W0 (w : World) (s1 s2 : Value) : World := (w.alloc (.cells #[s1, s2] 35)).alloc (.cells (cgc Cg0) 66)
theorem w0_facts (w : World) (s1 s2 : Value) : Below w.heap.size w (W0 w s1 s2) ∧ BlkB (W0 w s1 s2) w.heap.size s1 s2 ∧ BlkC (W0 w s1 s2) (w.heap.size + 1) Cg0 ∧ (W0 w s1 s2).heap.size = w.heap.size + 2 := by
  refine ⟨((Below.refl _ _).alloc (Nat.le_refl _) _).alloc (by simp) _, (Below.heap_alloc _ _ _ (by simp)).trans (heap_alloc_new _ _), ?_, by simp⟩
  have := heap_alloc_new (w.alloc (.cells #[s1, s2] 35)) (.cells (cgc Cg0) 66)
  rwa [show (w.alloc (.cells #[s1, s2] 35)).heap.size = w.heap.size + 1 by simp] at this
set_option maxHeartbeats 4000000 in
theorem begin_any (a : Option Addr) (len cap : Nat) (P : List Py) (a2 : Option Addr) (len2 cap2 : Nat) (G : List Pg) (n : Int) (w : World) (h : IsP w a len cap P) (h2 : IsG w a2 len2 cap2 G) :
    Calls Tryd.prog 27 #[vb a len cap a2 len2 cap2, .int .i64 n] w (BegP (.slice a len cap) (.slice a2 len2 cap2) P G n w) := by
  have HP := hide h
  obtain ⟨k1, k2, k3, k4⟩ := w0_facts w (.slice a len cap) (.slice a2 len2 cap2)
  have HCK := hide (check_any a len cap P a2 len2 cap2 G _ (h.below' k1) (h2.below' k1))
  have HK := hide (And.intro k1 (And.intro k2 (And.intro k3 k4)))
  have HOR := hide (fun W => order_any n W)
  clear h h2 k1 k2 k3 k4
  go_enter Tryd.func27, Tryd.ntmps27
  go_wp2_with fail
  refine HCK.out.mono ?_
  rintro e w1 ⟨⟨r, rfl, hr⟩, hb1⟩
  have HB1 : Hid (Below w.heap.size w w1) := hide (HK.out.1.trans (hb1.mono HK.out.1.size))
  have HBB : Hid (BlkB w1 w.heap.size (.slice a len cap) (.slice a2 len2 cap2)) := hide (HK.out.2.1.below (heap_lt HK.out.2.1) hb1)
  have HBR : Hid (BlkC w1 (w.heap.size + 1) Cg0) := hide (HK.out.2.2.1.below (heap_lt HK.out.2.2.1) hb1)
  clear hb1 HK HCK
  obtain ⟨c1, c2⟩ := HBB.out.cells
  obtain ⟨r1, r2, r3, r4, r5, r6, r7, r8⟩ := HBR.out.cells
  have fr := HBR.out.froz
  simp only [Cg0, Py0] at r1 r2 r3 r4 r5 r6 r7 r8
  rcases hr with ⟨rfl, hc⟩ | ⟨rfl, hc⟩
  · have HC := hide hc
    clear hc
    go_wp2_with fail
    refine (HOR.out _).mono ?_
    rintro e w2 ⟨rfl, hw⟩
    obtain rfl : w1 = w2 := hw.symm
    clear hw
    cases hO : ordB n
    · have HO := hide hO
      clear hO
      go_wp2
      refine bodyPost_ret (res2cg rfl _ (put8 _ (w.heap.size + 1) Cg0) (w.heap.size + 1) Cg0 (put8_blk HBR.out _) rfl) rfl ?_
      exact ⟨put8_below HB1.out (by omega) Cg0, .inr (.inl ⟨rfl, HC.out, HO.out⟩)⟩
    · have HO := hide hO
      clear hO
      have HRS := hide (pays_rise HC.out)
      have hlen : len ≤ 1025 := by have := HRS.out.2.1; rw [HP.out.1] at this; exact this
      have HA2 : Hid (Below w.heap.size w (w1.alloc (.cells (cgc ⟨.slice a len cap, .slice a2 len2 cap2, ⟨n, 0, 0, 0⟩, 0, 0⟩) 66))) := hide (HB1.out.alloc HB1.out.size _)
      have HA1 : Hid (Below w1.heap.size w1 (w1.alloc (.cells (cgc ⟨.slice a len cap, .slice a2 len2 cap2, ⟨n, 0, 0, 0⟩, 0, 0⟩) 66))) := hide ((Below.refl _ _).alloc (Nat.le_refl _) _)
      have HN2 : Hid (BlkC (w1.alloc (.cells (cgc ⟨.slice a len cap, .slice a2 len2 cap2, ⟨n, 0, 0, 0⟩, 0, 0⟩) 66)) w1.heap.size ⟨.slice a len cap, .slice a2 len2 cap2, ⟨n, 0, 0, 0⟩, 0, 0⟩) := hide (heap_alloc_new _ _)
      have HSE := hide (search_any a len cap P n _ (HP.out.below' HA2.out) (mono_of_rise HRS.out.1 n) (by omega))
      have HLT : Hid (hasP P n = true → lowP P n < len) := hide (fun h => by unfold hasP at h; simp only [Bool.and_eq_true, decide_eq_true_eq] at h; rw [← HP.out.1]; exact h.1)
      have HLE : Hid (lowP P n ≤ len) := hide (by rw [← HP.out.1]; unfold lowP; exact (List.takeWhile_sublist _).length_le)
      have HBO : Hid (begOk (.slice a len cap) (.slice a2 len2 cap2) P n = ⟨.slice a len cap, .slice a2 len2 cap2, if hasP P n = true then P.getD (lowP P n) Py0 else ⟨n, 0, 0, 0⟩, (lowP P n : Int), if hasP P n = true then (lowP P n : Int) + 1 else (lowP P n : Int)⟩) := hide rfl
      have HFIN : Hid (∀ w', Below w.heap.size w w' → ∀ d : Cg, d = begOk (.slice a len cap) (.slice a2 len2 cap2) P n → BegP (.slice a len cap) (.slice a2 len2 cap2) P G n w (.returned (.tuple #[vcg d, .int .i64 0])) w') := hide (fun w' hb d hd => ⟨hb, .inr (.inr ⟨by rw [hd], HC.out, HO.out⟩)⟩)
      generalize begOk (.slice a len cap) (.slice a2 len2 cap2) P n = C at HBO HFIN
      generalize lowP P n = lo at *
      generalize hasP P n = hb at *
      go_wp2_with fail
      refine HSE.out.mono ?_
      rintro e w3 ⟨rfl, hb3⟩
      have hne : w.heap.size + 1 < w1.heap.size := heap_lt HBR.out
      have HC3 := hide (HN2.out.below (heap_lt HN2.out) hb3)
      have HR3 := hide ((HBR.out.below (heap_lt HBR.out) HA1.out).below (Nat.lt_of_lt_of_le (heap_lt HBR.out) HA1.out.size) hb3)
      have HB3 : Hid (Below w.heap.size w w3) := hide (HA2.out.trans (hb3.mono HA2.out.size))
      clear hb3 HSE HN2 HA1 HA2 c1 c2 r1 r2 r3 r4 r5 r6 r7 r8 fr HBB HBR
      obtain ⟨c1, c2, c3, c4, c5, c6, c7, c8⟩ := HC3.out.cells
      obtain ⟨r1, r2, r3, r4, r5, r6, r7, r8⟩ := HR3.out.cells
      have fc := HC3.out.froz
      have fr := HR3.out.froz
      dsimp only at c1 c2 c3 c4 c5 c6 c7 c8
      simp only [Cg0, Py0] at r1 r2 r3 r4 r5 r6 r7 r8
      generalize w1.heap.size = gC at *
      have hne1 : w.heap.size + 1 ≠ gC := by omega
      have hne2 : gC ≠ w.heap.size + 1 := by omega
      have hgw : w.heap.size ≤ gC := by omega
      rename_i KA hA KB hB
      have HA := hide hA
      clear hA
      go_wp2
      refine HA.out _ _ ?_
      clear HA
      refine wp_seq_k (fun K1 hK1 => ?_)
      have HK1 := hide hK1
      clear hK1
      go_wp2
      generalize hW4 : (w3.setCell ⟨gC, 6, none⟩ (.int .i64 (lo : Int))).setCell ⟨gC, 7, none⟩ (.int .i64 (lo : Int)) = W4
      have HC4 : Hid (BlkC W4 gC ⟨.slice a len cap, .slice a2 len2 cap2, ⟨n, 0, 0, 0⟩, (lo : Int), (lo : Int)⟩) := hide (hW4 ▸ (blk_set (blk_set HC3.out _) _).trans rfl)
      have HR4 : Hid (BlkC W4 (w.heap.size + 1) Cg0) := hide (hW4 ▸ (HR3.out.other hne1 _).other hne1 _)
      have HB4 : Hid (Below w.heap.size w W4) := hide (hW4 ▸ (HB3.out.setCell hgw _).setCell hgw _)
      clear hW4 HC3 HR3 HB3 c1 c2 c3 c4 c5 c6 c7 c8 r1 r2 r3 r4 r5 r6 r7 r8 fc fr
      refine HK1.out _ _ ?_
      clear HK1
      refine wp_seq_k (fun K2 hK2 => ?_)
      have HK2 := hide hK2
      clear hK2
      obtain ⟨c1, c2, c3, c4, c5, c6, c7, c8⟩ := HC4.out.cells
      have fc := HC4.out.froz
      dsimp only at c1 c2 c3 c4 c5 c6 c7 c8
      cases hb
      · go_wp2
        refine HK2.out _ _ ?_
        clear HK2
        obtain ⟨r1, r2, r3, r4, r5, r6, r7, r8⟩ := HR4.out.cells
        have fr := HR4.out.froz
        simp only [Cg0, Py0] at r1 r2 r3 r4 r5 r6 r7 r8
        go_wp2
        refine bodyPost_ret (res2cg rfl _ (put8 W4 (w.heap.size + 1) ⟨.slice a len cap, .slice a2 len2 cap2, ⟨n, 0, 0, 0⟩, (lo : Int), (lo : Int)⟩) (w.heap.size + 1) ⟨.slice a len cap, .slice a2 len2 cap2, ⟨n, 0, 0, 0⟩, (lo : Int), (lo : Int)⟩ (put8_blk HR4.out _) rfl) rfl ?_
        exact HFIN.out _ (put8_below HB4.out (by omega) ⟨.slice a len cap, .slice a2 len2 cap2, ⟨n, 0, 0, 0⟩, (lo : Int), (lo : Int)⟩) _ (by rw [HBO.out]; rfl)
      · have hlo := HLT.out rfl
        obtain ⟨bs, off, rfl, hbs, y0⟩ := HP.out.2.2.2.2.1 lo hlo
        have HY := hide (y0.below hbs HB4.out)
        clear y0
        generalize P.getD lo Py0 = y at HBO HY
        obtain ⟨y1, y2, y3, y4⟩ := y
        obtain ⟨d1, d2, d3, d4⟩ := HY.out
        dsimp only at d1 d2 d3 d4
        have hb1 : bs ≠ gC := by omega
        have hb2 : gC ≠ bs := by omega
        have hlI : (lo : Int) < (len : Int) := by omega
        have hl0 : (0 : Int) ≤ (lo : Int) := by omega
        have hl1 : (lo : Int) < 1025 := by omega
        have hwl : IntKind.i64.wrap ((lo : Int) + 1) = (lo : Int) + 1 := wrap64 (by omega) (by omega)
        go_wp2
        generalize hW5 : ((((W4.setCell ⟨gC, 2, none⟩ (.int .i64 y1)).setCell ⟨gC, 3, none⟩ (.int .i64 y2)).setCell ⟨gC, 4, none⟩ (.int .i64 y3)).setCell ⟨gC, 5, none⟩ (.int .i64 y4)).setCell ⟨gC, 7, none⟩ (.int .i64 ((lo : Int) + 1)) = W5
        have HC5 : Hid (BlkC W5 gC ⟨.slice (some ⟨bs, off, none⟩) len cap, .slice a2 len2 cap2, ⟨y1, y2, y3, y4⟩, (lo : Int), (lo : Int) + 1⟩) := hide (hW5 ▸ (blk_set (blk_set (blk_set (blk_set (blk_set HC4.out _) _) _) _) _).trans rfl)
        have HR5 : Hid (BlkC W5 (w.heap.size + 1) Cg0) := hide (hW5 ▸ ((((HR4.out.other hne1 _).other hne1 _).other hne1 _).other hne1 _).other hne1 _)
        have HB5 : Hid (Below w.heap.size w W5) := hide (hW5 ▸ ((((HB4.out.setCell hgw _).setCell hgw _).setCell hgw _).setCell hgw _).setCell hgw _)
        clear hW5 HC4 HR4 HB4 c1 c2 c3 c4 c5 c6 c7 c8 fc d1 d2 d3 d4
        obtain ⟨c1, c2, c3, c4, c5, c6, c7, c8⟩ := HC5.out.cells
        have fc := HC5.out.froz
        dsimp only at c1 c2 c3 c4 c5 c6 c7 c8
        obtain ⟨r1, r2, r3, r4, r5, r6, r7, r8⟩ := HR5.out.cells
        have fr := HR5.out.froz
        simp only [Cg0, Py0] at r1 r2 r3 r4 r5 r6 r7 r8
        refine HK2.out _ _ ?_
        clear HK2
        go_wp2
        refine bodyPost_ret (res2cg rfl _ (put8 W5 (w.heap.size + 1) ⟨.slice (some ⟨bs, off, none⟩) len cap, .slice a2 len2 cap2, ⟨y1, y2, y3, y4⟩, (lo : Int), (lo : Int) + 1⟩) (w.heap.size + 1) ⟨.slice (some ⟨bs, off, none⟩) len cap, .slice a2 len2 cap2, ⟨y1, y2, y3, y4⟩, (lo : Int), (lo : Int) + 1⟩ (put8_blk HR5.out _) rfl) rfl ?_
        exact HFIN.out _ (put8_below HB5.out (by omega) ⟨.slice (some ⟨bs, off, none⟩) len cap, .slice a2 len2 cap2, ⟨y1, y2, y3, y4⟩, (lo : Int), (lo : Int) + 1⟩) _ (by rw [HBO.out]; rfl)
  · have HC := hide hc
    clear hc
    go_wp2
    refine bodyPost_ret (res2cg rfl _ (put8 _ (w.heap.size + 1) Cg0) (w.heap.size + 1) Cg0 (put8_blk HBR.out _) rfl) rfl ?_
    exact ⟨put8_below HB1.out (by omega) Cg0, .inl ⟨rfl, HC.out⟩⟩
end Go.Proofs.YtffhkljegopjmaaDoor.Lg
