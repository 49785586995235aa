/- the document's Sweep -/
import Derived.Test.YtpgdmkjfgmiacaaZe
import Derived.Test.YtpgdmkjfgmiacaaZb
namespace Go.Proofs.Ytpgdmkjfgmiacaa
open Go.RowKit Go.Shelf
set_option maxRecDepth 40000 in
set_option maxHeartbeats 2000000 in
theorem rsweep_no (a : Option Addr) (len cap low t : Nat) (l : List Vr) (w : World) (hL : IsV w a len cap l) (hE : ¬ sweepE low l t = 0) : Calls Try.prog 25 #[.agg #[.slice a len cap, .int .u64 (low : Nat)], .int .u64 (t : Nat)] w fun e w' =>
    e = .returned (.tuple #[.agg #[.slice none 0 0, .int .u64 0], .int .i64 (sweepE low l t)]) ∧ Below w.heap.size w w' := by
  have HB5 : Hid (Below w.heap.size w ((w.alloc (.cells #[.slice a len cap, .int .u64 (low : Nat)] 25)).alloc (.cells #[.slice none 0 0, .int .u64 0] 25))) := hide (((Below.refl _ w).alloc (Nat.le_refl _) _).alloc (by simp) _)
  have bR := hide (heap_alloc_new (w.alloc (.cells #[.slice a len cap, .int .u64 (low : Nat)] 25)) (.cells #[.slice none 0 0, .int .u64 0] 25))
  have bV : Hid (Two ((w.alloc (.cells #[.slice a len cap, .int .u64 (low : Nat)] 25)).alloc (.cells #[.slice none 0 0, .int .u64 0] 25)) w.heap.size (.slice a len cap) (.int .u64 (low : Nat))) := hide ((heap_alloc_old _ _ _ (by simp)).trans (heap_alloc_new _ _))
  simp only [World.size_alloc] at bR
  have HV := hide (hL.below HB5.out)
  clear hL
  go_enter Try.func25, Try.ntmps25
  go_wp2_with fail
  generalize ((w.alloc (.cells #[.slice a len cap, .int .u64 (low : Nat)] 25)).alloc (.cells #[.slice none 0 0, .int .u64 0] 25)) = V at *
  refine (rcheck_any a len cap low l V HV.out).mono ?_
  rintro e w1 ⟨rfl, hb1⟩
  have HB1 := hide (HB5.out.trans (hb1.mono HB5.out.size))
  obtain ⟨v0, v1⟩ := cells2_of_blk ((hb1.block _ (heap_lt bV.out)).trans bV.out)
  have HR : Hid (Two w1 (w.heap.size + 1) (.slice none 0 0) (.int .u64 0)) := hide ((hb1.block _ (heap_lt bR.out)).trans bR.out)
  obtain ⟨r0, r1⟩ := cells2_of_blk HR.out
  have f0 := frz HR.out 0
  have f1 := frz HR.out 1
  clear hb1 bV bR HV
  have HFIN : Hid (∀ (fn : Func) (tmps : Array Value) (e : Int), fn.results = #[.cell 4 25, .tmp 5] → tmps.getD 4 undef = .pointer (some ⟨w.heap.size + 1, 0, none⟩) → tmps.getD 5 undef = .int .i64 e → (results fn tmps).run Try.prog ((w1.setCell ⟨w.heap.size + 1, 0, none⟩ (.slice none 0 0)).setCell ⟨w.heap.size + 1, 1, none⟩ (.int .u64 0)) = .ok (.tuple #[.agg #[.slice none 0 0, .int .u64 0], .int .i64 e]) ((w1.setCell ⟨w.heap.size + 1, 0, none⟩ (.slice none 0 0)).setCell ⟨w.heap.size + 1, 1, none⟩ (.int .u64 0))) := hide (fun fn tmps e h1 h2 h3 => by
    rw [res25 h1 tmps _ _ _ _ (two_set HR.out _ _) h2, h3])
  have HBF : Hid (Below w.heap.size w ((w1.setCell ⟨w.heap.size + 1, 0, none⟩ (.slice none 0 0)).setCell ⟨w.heap.size + 1, 1, none⟩ (.int .u64 0))) := hide ((HB1.out.setCell (p := ⟨w.heap.size + 1, 0, none⟩) (by show _ ≤ w.heap.size + 1; omega) _).setCell (p := ⟨w.heap.size + 1, 1, none⟩) (by show _ ≤ w.heap.size + 1; omega) _)
  unfold sweepE at hE
  unfold checkE
  by_cases hg : goodB low l = true
  · rw [if_pos hg] at hE ⊢
    by_cases h1 : t < low
    · have HE : Hid (sweepE low l t = 9) := hide (by unfold sweepE; rw [if_pos hg, if_pos h1])
      have h1I : (t : Int) < (low : Int) := by omega
      clear hE hg
      go_wp2
      refine bodyPost_ret (HFIN.out Try.f25 _ 9 rfl rfl rfl) rfl ?_
      exact ⟨by rw [HE.out], HBF.out⟩
    · rw [if_neg h1] at hE
      have h2 : 2305843009213693952 < t := by
        by_cases h : 2305843009213693952 < t
        · exact h
        · rw [if_neg h] at hE; exact absurd rfl hE
      have HE : Hid (sweepE low l t = 2) := hide (by unfold sweepE; rw [if_pos hg, if_neg h1, if_pos h2])
      have h1I : ¬ (t : Int) < (low : Int) := by omega
      have h2I : (2305843009213693952 : Int) < (t : Int) := by omega
      clear hE hg
      go_wp2
      refine bodyPost_ret (HFIN.out Try.f25 _ 2 rfl rfl rfl) rfl ?_
      exact ⟨by rw [HE.out], HBF.out⟩
  · rw [if_neg hg]
    have HE : Hid (sweepE low l t = 2) := hide (by unfold sweepE; rw [if_neg hg])
    clear hE hg
    go_wp2
    refine bodyPost_ret (HFIN.out Try.f25 _ 2 rfl rfl rfl) rfl ?_
    exact ⟨by rw [HE.out], HBF.out⟩
set_option maxRecDepth 40000 in
set_option maxHeartbeats 8000000 in
theorem rsweep_yes (a : Option Addr) (len cap low t : Nat) (l : List Vr) (w : World) (hL : IsV w a len cap l) (hg : goodB low l = true) (h1 : ¬ t < low) (h2 : ¬ 2305843009213693952 < t) : Calls Try.prog 25 #[.agg #[.slice a len cap, .int .u64 (low : Nat)], .int .u64 (t : Nat)] w fun e w' =>
    ∃ a' c', e = .returned (.tuple #[.agg #[.slice a' (docS t l).length c', .int .u64 (t : Nat)], .int .i64 0]) ∧ IsV w' a' (docS t l).length c' (docS t l) ∧ Below w.heap.size w w' := by
  have HB5 : Hid (Below w.heap.size w ((w.alloc (.cells #[.slice a len cap, .int .u64 (low : Nat)] 25)).alloc (.cells #[.slice none 0 0, .int .u64 0] 25))) := hide (((Below.refl _ w).alloc (Nat.le_refl _) _).alloc (by simp) _)
  have bR := hide (heap_alloc_new (w.alloc (.cells #[.slice a len cap, .int .u64 (low : Nat)] 25)) (.cells #[.slice none 0 0, .int .u64 0] 25))
  have bV : Hid (Two ((w.alloc (.cells #[.slice a len cap, .int .u64 (low : Nat)] 25)).alloc (.cells #[.slice none 0 0, .int .u64 0] 25)) w.heap.size (.slice a len cap) (.int .u64 (low : Nat))) := hide ((heap_alloc_old _ _ _ (by simp)).trans (heap_alloc_new _ _))
  simp only [World.size_alloc] at bR
  have HV := hide (hL.below HB5.out)
  have HVS : Hid (((w.alloc (.cells #[.slice a len cap, .int .u64 (low : Nat)] 25)).alloc (.cells #[.slice none 0 0, .int .u64 0] 25)).heap.size = w.heap.size + 2) := hide (by simp)
  have HLN := hide hL.1
  have hcm : cap ≤ 9223372036854775807 := hL.2.2.1
  have hcap := hL.2.1
  have hl4 : len ≤ 4096 := by rw [← hL.1]; exact (goodB_iff.1 hg).1
  have HC : Hid (checkE low l = 0) := hide (by unfold checkE; rw [if_pos hg])
  have h1I : ¬ (t : Int) < (low : Int) := by omega
  have h2I : ¬ (2305843009213693952 : Int) < (t : Int) := by omega
  have h1D : decide ((t : Int) < (low : Int)) = false := decide_eq_false h1I
  have h1N : decide (t < low) = false := decide_eq_false h1
  have h2N : decide (2305843009213693952 < t) = false := decide_eq_false h2
  have h2D : decide ((2305843009213693952 : Int) < (t : Int)) = false := decide_eq_false h2I
  clear hL hg h1 h2
  go_enter Try.func25, Try.ntmps25
  go_wp2_with fail
  generalize ((w.alloc (.cells #[.slice a len cap, .int .u64 (low : Nat)] 25)).alloc (.cells #[.slice none 0 0, .int .u64 0] 25)) = V at *
  refine (rcheck_any a len cap low l V HV.out).mono ?_
  rintro e w1 ⟨rfl, hb1⟩
  rw [HC.out]
  have HB1 := hide (HB5.out.trans (hb1.mono HB5.out.size))
  have HV1 := hide (HV.out.below hb1)
  have HT1 : Hid (Two w1 w.heap.size (.slice a len cap) (.int .u64 (low : Nat))) := hide ((hb1.block _ (heap_lt bV.out)).trans bV.out)
  have HR1 : Hid (Two w1 (w.heap.size + 1) (.slice none 0 0) (.int .u64 0)) := hide ((hb1.block _ (heap_lt bR.out)).trans bR.out)
  have HN1 : Hid (w.heap.size + 2 ≤ w1.heap.size) := hide (by rw [← HVS.out]; exact hb1.size)
  have HB0 : Hid (Below w1.heap.size w1 (w1.alloc (.cells #[.slice none 0 0, .int .u64 (t : Nat)] 25))) := hide ((Below.refl _ w1).alloc (Nat.le_refl _) _)
  have HT0 : Hid (Two (w1.alloc (.cells #[.slice none 0 0, .int .u64 (t : Nat)] 25)) w1.heap.size (.slice none 0 0) (.int .u64 (t : Nat))) := hide (heap_alloc_new _ _)
  have HS0 : Hid (w1.heap.size + 1 ≤ (w1.alloc (.cells #[.slice none 0 0, .int .u64 (t : Nat)] 25)).heap.size) := hide (by simp)
  obtain ⟨v0, v1⟩ := cells2_of_blk HT1.out
  obtain ⟨u0, u1⟩ := cells2_of_blk ((HB0.out.block _ (heap_lt HT1.out)).trans HT1.out)
  clear hb1 bV bR HV HC
  go_wp2
  clear v0 v1 u0 u1 h1I h2I h1D h2D h1N h2N
  go_loopw [33] (fun v33 wr => ∃ (k m : Nat) (dn : List Vr) (v : Value), k ≤ len ∧ m ≤ k ∧ v33 = .int .i64 (k : Nat) ∧ Hid (Below w1.heap.size w1 wr ∧ Two wr w1.heap.size v (.int .u64 (t : Nat)) ∧ wr.ownsRow (w1.heap.size + 1) 51 4 v m (dn.flatMap vrc) ∧ w1.heap.size + 1 ≤ wr.heap.size ∧ dn.length = m ∧ docS t l = dn ++ docS t (l.drop k))) (fun v33 _ => len - (intOf v33).toNat)
  case atStart => exact ⟨0, 0, [], .slice none 0 0, Nat.zero_le _, Nat.zero_le _, rfl, hide ⟨HB0.out, HT0.out, World.ownsRow_nil _ _ _ _, HS0.out, rfl, rfl⟩⟩
  case round =>
    obtain ⟨k, m, dn, v, hk, hm, rfl, HI⟩ := hrel
    obtain ⟨av, cv, rfl⟩ := own_form HI.out.2.2.1
    by_cases hlt : k < len
    rotate_left
    · obtain rfl : k = len := by omega
      have hi2 : ¬ (k : Int) < (k : Int) := by omega
      have HME : Hid (docS t l = dn) := hide (by
        have h := HI.out.2.2.2.2.2
        rw [← HLN.out, List.drop_length] at h
        rw [h]
        exact List.append_nil _)
      have HB4 := hide (HB1.out.trans (HI.out.1.mono HB1.out.size))
      have HR4 : Hid (Two wr (w.heap.size + 1) (.slice none 0 0) (.int .u64 0)) := hide ((HI.out.1.block _ (heap_lt HR1.out)).trans HR1.out)
      have HL4 : Hid (m = (docS t l).length) := hide (by rw [HME.out]; exact HI.out.2.2.2.2.1.symm)
      obtain ⟨g0, g1⟩ := cells2_of_blk HI.out.2.1
      obtain ⟨r0, r1⟩ := cells2_of_blk HR4.out
      have f0 := frz HR4.out 0
      have f1 := frz HR4.out 1
      have HFIN : Hid (∀ (fn : Func) (tmps : Array Value) (e : Int), fn.results = #[.cell 4 25, .tmp 5] → tmps.getD 4 undef = .pointer (some ⟨w.heap.size + 1, 0, none⟩) → tmps.getD 5 undef = .int .i64 e → (results fn tmps).run Try.prog ((wr.setCell ⟨w.heap.size + 1, 0, none⟩ (.slice av m cv)).setCell ⟨w.heap.size + 1, 1, none⟩ (.int .u64 (t : Nat))) = .ok (.tuple #[.agg #[.slice av m cv, .int .u64 (t : Nat)], .int .i64 e]) ((wr.setCell ⟨w.heap.size + 1, 0, none⟩ (.slice av m cv)).setCell ⟨w.heap.size + 1, 1, none⟩ (.int .u64 (t : Nat)))) := hide (fun fn tmps e h1 h2 h3 => by
        rw [res25 h1 tmps _ _ _ _ (two_set HR4.out _ _) h2, h3])
      have HBF : Hid (Below w.heap.size w ((wr.setCell ⟨w.heap.size + 1, 0, none⟩ (.slice av m cv)).setCell ⟨w.heap.size + 1, 1, none⟩ (.int .u64 (t : Nat)))) := hide ((HB4.out.setCell (p := ⟨w.heap.size + 1, 0, none⟩) (by show _ ≤ w.heap.size + 1; omega) _).setCell (p := ⟨w.heap.size + 1, 1, none⟩) (by show _ ≤ w.heap.size + 1; omega) _)
      have HOF : Hid (((wr.setCell ⟨w.heap.size + 1, 0, none⟩ (.slice av m cv)).setCell ⟨w.heap.size + 1, 1, none⟩ (.int .u64 (t : Nat))).ownsRow (w1.heap.size + 1) 51 4 (.slice av m cv) m (dn.flatMap vrc)) := hide (ownsRow_setCell_below (ownsRow_setCell_below HI.out.2.2.1 (by show w.heap.size + 1 < w1.heap.size + 1; have := HN1.out; omega) _) (by show w.heap.size + 1 < w1.heap.size + 1; have := HN1.out; omega) _)
      have HO4 := hide (own_isV HI.out.2.2.2.2.1 HOF.out)
      clear HI HOF
      go_wp2
      refine bodyPost_ret (HFIN.out Try.f25 _ 0 rfl rfl rfl) rfl ?_
      obtain ⟨a9, c9, e9, hI9, _⟩ := HO4.out
      cases e9
      have e1 := HL4.out
      have e2 := HME.out
      rw [← e2] at hI9
      subst e1
      exact ⟨_, _, rfl, hI9, HBF.out⟩
    have HVr := hide (HV1.out.below HI.out.1)
    obtain ⟨b, off, rfl, hbs, z0, z1, z2, z3⟩ := HVr.out.2.2.2 k hlt
    have HTr : Hid (Two wr w.heap.size (.slice (some ⟨b, off, none⟩) len cap) (.int .u64 (low : Nat))) := hide ((HI.out.1.block _ (heap_lt HT1.out)).trans HT1.out)
    obtain ⟨i, hik⟩ : ∃ i, i = k + 1 := ⟨_, rfl⟩
    have HST := hide (docS_step t l k (by rw [HLN.out]; exact hlt))
    rw [← hik] at HST
    have HIK := hide hik
    have HPR : Hid (i < len → wr.cell? ⟨b, off + i * 4, none⟩ = some (.string (l.getD i Vr0).key) ∧ wr.cell? ⟨b, off + i * 4 + 1, none⟩ = some (.int .u64 ((l.getD i Vr0).at_ : Nat)) ∧ l[i]? = some (l.getD i Vr0)) := hide (fun hi => by
      obtain ⟨b', off', e', _, y0, y1, _⟩ := HVr.out.2.2.2 i hi
      cases e'
      exact ⟨y0, y1, by rw [List.getD_eq_getElem?_getD, List.getElem?_eq_getElem (by rw [HLN.out]; exact hi)]; rfl⟩)
    generalize hx : l.getD k Vr0 = x at *
    clear hx
    obtain ⟨x1, x2, x3, x4⟩ := x
    dsimp only at z0 z1 z2 z3
    have HBN : Hid (Below wr.heap.size wr (wr.alloc (.cells #[.string x1, .int .u64 (x2 : Nat), .string x3, .bool x4] 51)).drew) := hide ((Below.refl _ wr).alloc (Nat.le_refl _) _).drew
    have hw1 : IntKind.i64.wrap ((k : Int) + 1) = (i : Int) := by rw [wr64' (by omega) (by omega)]; omega
    have hw6 : IntKind.i64.wrap (i : Int) = (i : Int) := wr64' (by omega) (by omega)
    have hi2 : (k : Int) < (len : Int) := by omega
    have hi4 : (0 : Int) ≤ (k : Int) := by omega
    have hi5 : (0 : Int) ≤ (i : Int) := by omega
    have HK2 := hide (HI.out.1.trans (HBN.out.mono HI.out.1.size))
    have HZ2 : Hid (w1.heap.size + 1 ≤ (wr.alloc (.cells #[.string x1, .int .u64 (x2 : Nat), .string x3, .bool x4] 51)).drew.heap.size) := hide (Nat.le_trans HI.out.2.2.2.1 HBN.out.size)
    have HT2 : Hid (Two (wr.alloc (.cells #[.string x1, .int .u64 (x2 : Nat), .string x3, .bool x4] 51)).drew w1.heap.size (.slice av m cv) (.int .u64 (t : Nat))) := hide ((HBN.out.block _ (heap_lt HI.out.2.1)).trans HI.out.2.1)
    have HOW : Hid ((wr.alloc (.cells #[.string x1, .int .u64 (x2 : Nat), .string x3, .bool x4] 51)).drew.ownsRow (w1.heap.size + 1) 51 4 (.slice av m cv) m (dn.flatMap vrc)) := hide (World.ownsRow.drew (HI.out.2.2.1.alloc _))
    have HX0 : Hid ((wr.alloc (.cells #[.string x1, .int .u64 (x2 : Nat), .string x3, .bool x4] 51)).drew.cell? ⟨wr.heap.size, 0, none⟩ = some (.string x1)) := hide (cell_blk (heap_alloc_new wr (.cells #[.string x1, .int .u64 (x2 : Nat), .string x3, .bool x4] 51)) rfl)
    have HX1 : Hid ((wr.alloc (.cells #[.string x1, .int .u64 (x2 : Nat), .string x3, .bool x4] 51)).drew.cell? ⟨wr.heap.size, 1, none⟩ = some (.int .u64 (x2 : Nat))) := hide (cell_blk (heap_alloc_new wr (.cells #[.string x1, .int .u64 (x2 : Nat), .string x3, .bool x4] 51)) rfl)
    have HX2 : Hid ((wr.alloc (.cells #[.string x1, .int .u64 (x2 : Nat), .string x3, .bool x4] 51)).drew.cell? ⟨wr.heap.size, 2, none⟩ = some (.string x3)) := hide (cell_blk (heap_alloc_new wr (.cells #[.string x1, .int .u64 (x2 : Nat), .string x3, .bool x4] 51)) rfl)
    have HX3 : Hid ((wr.alloc (.cells #[.string x1, .int .u64 (x2 : Nat), .string x3, .bool x4] 51)).drew.cell? ⟨wr.heap.size, 3, none⟩ = some (.bool x4)) := hide (cell_blk (heap_alloc_new wr (.cells #[.string x1, .int .u64 (x2 : Nat), .string x3, .bool x4] 51)) rfl)
    have hN0 : (wr.alloc (.cells #[.string x1, .int .u64 (x2 : Nat), .string x3, .bool x4] 51)).drew.cell? ⟨w.heap.size, 0, none⟩ = some (.slice (some ⟨b, off, none⟩) len cap) := (World.cell?_of_block (HBN.out.block _ (heap_lt HTr.out))).trans (cells2_of_blk HTr.out).1
    by_cases hil : i < len
    rotate_left
    · have hid : decide ((i : Int) < (len : Int)) = false := decide_eq_false (by omega)
      have hin : ¬ (i : Int) < (len : Int) := by omega
      have HNB : Hid (nextB t ⟨x1, x2, x3, x4⟩ l[i]? = false) := hide (by rw [List.getElem?_eq_none (by rw [HLN.out]; omega)]; rfl)
      have HS : Hid ((wr.alloc (.cells #[.string x1, .int .u64 (x2 : Nat), .string x3, .bool x4] 51)).drew.cell? ⟨w.heap.size, 0, none⟩ = some (.slice (some ⟨b, off, none⟩) len cap) ∧ (wr.alloc (.cells #[.string x1, .int .u64 (x2 : Nat), .string x3, .bool x4] 51)).drew.cell? ⟨wr.heap.size, 0, none⟩ = some (.string x1)) := hide ⟨hN0, HX0.out⟩
      clear hN0 HPR hik
      go_wp2_with fail
      refine wp_region_held_drew (S := (fun W : World => W.cell? ⟨w.heap.size, 0, none⟩ = some (.slice (some ⟨b, off, none⟩) len cap) ∧ W.cell? ⟨wr.heap.size, 0, none⟩ = some (.string x1))) (by kernel_rfl) ?hSpa (fun hHeld => ?_)
      case hSpa => exact HS.out
      refine hTake (i := 0) (v := ?v0pa) (some 38) rfl rfl (by kernel_rfl) (by kernel_rfl) (by kernel_rfl) (fun _ _ _ h => h) (by rfl) (by assumption) ?hy0pa ?hn0pa
      case hy0pa => (intro w hSw; (try dsimp only at hSw); go_simp; try with_reducible rfl)
      try simp only [Act.put, List.setIfInBounds_toArray, List.set_cons_zero, List.set_cons_succ]
      refine hTake (i := 1) (v := ?v1pa) (some 39) rfl rfl (by kernel_rfl) (by kernel_rfl) (by kernel_rfl) (fun _ _ _ h => h) (by rfl) (by assumption) ?hy1pa ?hn1pa
      case hy1pa => (intro w hSw; (try dsimp only at hSw); go_simp; try with_reducible rfl)
      try simp only [Act.put, List.setIfInBounds_toArray, List.set_cons_zero, List.set_cons_succ]
      refine hTake (i := 2) (v := ?v2pa) (some 40) rfl rfl (by kernel_rfl) (by kernel_rfl) (by kernel_rfl) (fun _ _ _ h => h) (by rfl) (by assumption) ?hy2pa ?hn2pa
      case hy2pa => (intro w hSw; (try dsimp only at hSw); go_simp; try with_reducible rfl)
      try simp only [Act.put, List.setIfInBounds_toArray, List.set_cons_zero, List.set_cons_succ]
      refine hTake (i := 3) (v := ?v3pa) (some 41) rfl rfl (by kernel_rfl) (by kernel_rfl) (by kernel_rfl) (fun _ _ _ h => h) (by rfl) (by assumption) ?hy3pa ?hn3pa
      case hy3pa => (intro w hSw; (try dsimp only at hSw); go_simp; try with_reducible rfl)
      try simp only [Act.put, List.setIfInBounds_toArray, List.set_cons_zero, List.set_cons_succ]
      refine hTake (i := 4) (v := ?v4pa) (some 42) rfl rfl (by kernel_rfl) (by kernel_rfl) (by kernel_rfl) (fun _ _ _ h => h) (by rfl) (by assumption) ?hy4pa ?hn4pa
      case hy4pa => (intro w hSw; (try dsimp only at hSw); go_simp; try with_reducible rfl)
      try simp only [Act.put, List.setIfInBounds_toArray, List.set_cons_zero, List.set_cons_succ]
      refine hTake (i := 5) (v := ?v5pa) (some 43) rfl rfl (by kernel_rfl) (by kernel_rfl) (by kernel_rfl) (fun _ _ _ h => h) (by rfl) (by assumption) ?hy5pa ?hn5pa
      case hy5pa => (intro w hSw; (try dsimp only at hSw); go_simp; try with_reducible rfl)
      try simp only [Act.put, List.setIfInBounds_toArray, List.set_cons_zero, List.set_cons_succ]
      refine hTake (i := 6) (v := ?v6pa) (some 44) rfl rfl (by kernel_rfl) (by kernel_rfl) (by kernel_rfl) (fun _ _ _ h => h) (by rfl) (by assumption) ?hy6pa ?hn6pa
      case hy6pa => (intro w hSw; (try dsimp only at hSw); go_simp; try with_reducible rfl)
      try simp only [Act.put, List.setIfInBounds_toArray, List.set_cons_zero, List.set_cons_succ]
      refine hSkip (i := 7) (some 45) rfl rfl (by kernel_rfl) (by kernel_rfl) (by kernel_rfl) (fun _ _ _ h => h) (by rfl) (by assumption) ?_
      try simp only [Act.put, List.setIfInBounds_toArray, List.set_cons_zero, List.set_cons_succ]
      refine hSkip (i := 8) (some 46) rfl rfl (by kernel_rfl) (by kernel_rfl) (by kernel_rfl) (fun _ _ _ h => h) (by rfl) (by assumption) ?_
      try simp only [Act.put, List.setIfInBounds_toArray, List.set_cons_zero, List.set_cons_succ]
      refine hSkip (i := 9) (some 47) rfl rfl (by kernel_rfl) (by kernel_rfl) (by kernel_rfl) (fun _ _ _ h => h) (by rfl) (by assumption) ?_
      try simp only [Act.put, List.setIfInBounds_toArray, List.set_cons_zero, List.set_cons_succ]
      refine hSkip (i := 10) (some 48) rfl rfl (by kernel_rfl) (by kernel_rfl) (by kernel_rfl) (fun _ _ _ h => h) (by rfl) (by assumption) ?_
      try simp only [Act.put, List.setIfInBounds_toArray, List.set_cons_zero, List.set_cons_succ]
      refine hSkip (i := 11) (some 49) rfl rfl (by kernel_rfl) (by kernel_rfl) (by kernel_rfl) (fun _ _ _ h => h) (by rfl) (by assumption) ?_
      try simp only [Act.put, List.setIfInBounds_toArray, List.set_cons_zero, List.set_cons_succ]
      refine hSkip (i := 12) (some 50) rfl rfl (by kernel_rfl) (by kernel_rfl) (by kernel_rfl) (fun _ _ _ h => h) (by rfl) (by assumption) ?_
      try simp only [Act.put, List.setIfInBounds_toArray, List.set_cons_zero, List.set_cons_succ]
      refine hSkip (i := 13) (some 51) rfl rfl (by kernel_rfl) (by kernel_rfl) (by kernel_rfl) (fun _ _ _ h => h) (by rfl) (by assumption) ?_
      try simp only [Act.put, List.setIfInBounds_toArray, List.set_cons_zero, List.set_cons_succ]
      refine hSkip (i := 14) (some 52) rfl rfl (by kernel_rfl) (by kernel_rfl) (by kernel_rfl) (fun _ _ _ h => h) (by rfl) (by assumption) ?_
      try simp only [Act.put, List.setIfInBounds_toArray, List.set_cons_zero, List.set_cons_succ]
      refine hSkip (i := 15) (some 53) rfl rfl (by kernel_rfl) (by kernel_rfl) (by kernel_rfl) (fun _ _ _ h => h) (by rfl) (by assumption) ?_
      try simp only [Act.put, List.setIfInBounds_toArray, List.set_cons_zero, List.set_cons_succ]
      refine hSkip (i := 16) (some 54) rfl rfl (by kernel_rfl) (by kernel_rfl) (by kernel_rfl) (fun _ _ _ h => h) (by rfl) (by assumption) ?_
      try simp only [Act.put, List.setIfInBounds_toArray, List.set_cons_zero, List.set_cons_succ]
      refine hTake (i := 17) (v := ?v17pa) (some 55) rfl rfl (by kernel_rfl) (by kernel_rfl) (by kernel_rfl) (fun _ _ _ h => h) (by rfl) (by assumption) ?hy17pa ?hn17pa
      case hy17pa => (intro w hSw; (try dsimp only at hSw); go_simp; try with_reducible rfl)
      try simp only [Act.put, List.setIfInBounds_toArray, List.set_cons_zero, List.set_cons_succ]
      refine hTake (i := 18) (v := ?v18pa) (some 56) rfl rfl (by kernel_rfl) (by kernel_rfl) (by kernel_rfl) (fun _ _ _ h => h) (by rfl) (by assumption) ?hy18pa ?hn18pa
      case hy18pa => (intro w hSw; (try dsimp only at hSw); go_simp; try with_reducible rfl)
      try simp only [Act.put, List.setIfInBounds_toArray, List.set_cons_zero, List.set_cons_succ]
      refine hSkip (i := 19) (some 57) rfl rfl (by kernel_rfl) (by kernel_rfl) (by kernel_rfl) (fun _ _ _ h => h) (by rfl) (by assumption) ?_
      try simp only [Act.put, List.setIfInBounds_toArray, List.set_cons_zero, List.set_cons_succ]
      refine hSkip (i := 20) (some 58) rfl rfl (by kernel_rfl) (by kernel_rfl) (by kernel_rfl) (fun _ _ _ h => h) (by rfl) (by assumption) ?_
      try simp only [Act.put, List.setIfInBounds_toArray, List.set_cons_zero, List.set_cons_succ]
      refine hSkip (i := 21) (some 59) rfl rfl (by kernel_rfl) (by kernel_rfl) (by kernel_rfl) (fun _ _ _ h => h) (by rfl) (by assumption) ?_
      try simp only [Act.put, List.setIfInBounds_toArray, List.set_cons_zero, List.set_cons_succ]
      refine hSkip (i := 22) (some 60) rfl rfl (by kernel_rfl) (by kernel_rfl) (by kernel_rfl) (fun _ _ _ h => h) (by rfl) (by assumption) ?_
      try simp only [Act.put, List.setIfInBounds_toArray, List.set_cons_zero, List.set_cons_succ]
      refine hSkip (i := 23) (some 61) rfl rfl (by kernel_rfl) (by kernel_rfl) (by kernel_rfl) (fun _ _ _ h => h) (by rfl) (by assumption) ?_
      try simp only [Act.put, List.setIfInBounds_toArray, List.set_cons_zero, List.set_cons_succ]
      refine hSkip (i := 24) (some 62) rfl rfl (by kernel_rfl) (by kernel_rfl) (by kernel_rfl) (fun _ _ _ h => h) (by rfl) (by assumption) ?_
      try simp only [Act.put, List.setIfInBounds_toArray, List.set_cons_zero, List.set_cons_succ]
      refine hSkip (i := 25) (some 63) rfl rfl (by kernel_rfl) (by kernel_rfl) (by kernel_rfl) (fun _ _ _ h => h) (by rfl) (by assumption) ?_
      try simp only [Act.put, List.setIfInBounds_toArray, List.set_cons_zero, List.set_cons_succ]
      refine hSkip (i := 26) (some 64) rfl rfl (by kernel_rfl) (by kernel_rfl) (by kernel_rfl) (fun _ _ _ h => h) (by rfl) (by assumption) ?_
      try simp only [Act.put, List.setIfInBounds_toArray, List.set_cons_zero, List.set_cons_succ]
      refine hSkip (i := 27) (some 65) rfl rfl (by kernel_rfl) (by kernel_rfl) (by kernel_rfl) (fun _ _ _ h => h) (by rfl) (by assumption) ?_
      try simp only [Act.put, List.setIfInBounds_toArray, List.set_cons_zero, List.set_cons_succ]
      refine hTake (i := 28) (v := ?v28pa) (some 66) rfl rfl (by kernel_rfl) (by kernel_rfl) (by kernel_rfl) (fun _ _ _ h => h) (by rfl) (by assumption) ?hy28pa ?hn28pa
      case hy28pa => (intro w hSw; (try dsimp only at hSw); go_simp; try with_reducible rfl)
      try simp only [Act.put, List.setIfInBounds_toArray, List.set_cons_zero, List.set_cons_succ]
      refine hTake (i := 29) (v := ?v29pa) (some 10) rfl rfl (by kernel_rfl) (by kernel_rfl) (by kernel_rfl) (fun _ _ _ h => h) (by rfl) (by assumption) ?hy29pa ?hn29pa
      case hy29pa => (intro w hSw; (try dsimp only at hSw); go_simp; try with_reducible rfl)
      try simp only [Act.put, List.setIfInBounds_toArray, List.set_cons_zero, List.set_cons_succ]
      refine wpAnyH_done (by kernel_rfl) ?_ _
      cases x4
      · have HY : Hid (stayB t ⟨x1, x2, x3, false⟩ l[i]? = true) := hide (by unfold stayB; rw [HNB.out]; rfl)
        have HDN : Hid (docS t l = (dn ++ [⟨x1, x2, x3, false⟩]) ++ docS t (l.drop i)) := hide (by rw [HI.out.2.2.2.2.2, HST.out, if_pos HY.out, List.append_assoc])
        have HLL : Hid ((dn ++ [(⟨x1, x2, x3, false⟩ : Vr)]).length = m + 1) := hide (by rw [List.length_append, HI.out.2.2.2.2.1]; rfl)
        have HXB : Hid (IsV (wr.alloc (.cells #[.string x1, .int .u64 (x2 : Nat), .string x3, .bool false] 51)).drew (some ⟨wr.heap.size, 0, none⟩) 1 1 [⟨x1, x2, x3, false⟩]) := hide (isV_one ⟨x1, x2, x3, false⟩ (heap_alloc_new wr (.cells #[.string x1, .int .u64 (x2 : Nat), .string x3, .bool false] 51)))
        have HK3 : Hid (Below w1.heap.size w1 (((wr.alloc (.cells #[.string x1, .int .u64 (x2 : Nat), .string x3, .bool false] 51)).drew).alloc (.cells #[.string x1, .int .u64 (x2 : Nat), .string x3, .bool false] 51))) := hide (HK2.out.trans ((Below.refl _ _).alloc HK2.out.size _))
        have HT3 : Hid (Two (((wr.alloc (.cells #[.string x1, .int .u64 (x2 : Nat), .string x3, .bool false] 51)).drew).alloc (.cells #[.string x1, .int .u64 (x2 : Nat), .string x3, .bool false] 51)) w1.heap.size (.slice av m cv) (.int .u64 (t : Nat))) := hide ((heap_alloc_old _ _ _ (by have := HI.out.2.2.2.1; simp [World.drew]; omega)).trans HT2.out)
        have HO3 : Hid ((((wr.alloc (.cells #[.string x1, .int .u64 (x2 : Nat), .string x3, .bool false] 51)).drew).alloc (.cells #[.string x1, .int .u64 (x2 : Nat), .string x3, .bool false] 51)).ownsRow (w1.heap.size + 1) 51 4 (.slice av m cv) m (dn.flatMap vrc)) := hide (HOW.out.alloc _)
        have HN3 : Hid (IsV (((wr.alloc (.cells #[.string x1, .int .u64 (x2 : Nat), .string x3, .bool false] 51)).drew).alloc (.cells #[.string x1, .int .u64 (x2 : Nat), .string x3, .bool false] 51)) (some ⟨((wr.alloc (.cells #[.string x1, .int .u64 (x2 : Nat), .string x3, .bool false] 51)).drew).heap.size, 0, none⟩) 1 1 [⟨x1, x2, x3, false⟩]) := hide (isV_one ⟨x1, x2, x3, false⟩ (heap_alloc_new ((wr.alloc (.cells #[.string x1, .int .u64 (x2 : Nat), .string x3, .bool false] 51)).drew) (.cells #[.string x1, .int .u64 (x2 : Nat), .string x3, .bool false] 51)))
        have HBG : Hid ((m + 1) * 48 ≤ 140737488355328) := hide (by omega)
        have HS3 : Hid (w1.heap.size + 1 ≤ (((wr.alloc (.cells #[.string x1, .int .u64 (x2 : Nat), .string x3, .bool false] 51)).drew).alloc (.cells #[.string x1, .int .u64 (x2 : Nat), .string x3, .bool false] 51)).heap.size) := hide (by have := HI.out.2.2.2.1; simp [World.drew]; omega)
        have q0 := (cells2_of_blk HT2.out).1
        have e0 := HX0.out
        have e1 := HX1.out
        have e2 := HX2.out
        have e3 := HX3.out
        have hzz : ((wr.alloc (.cells #[.string x1, .int .u64 (x2 : Nat), .string x3, .bool false] 51)).drew).heap.size = wr.heap.size + 1 := by simp [World.drew]
        clear HXB
        rw [hzz] at HN3
        go_wp2_with (at_builtin; refine wpList_vers rfl _ _ rfl (w1.heap.size + 1) (.slice av m cv) m dn rfl HO3.out _ 1 1 _ rfl HN3.out HBG.out HS3.out ?_)
        intro v9 w9 HN
        obtain ⟨a9, c9, rfl⟩ := own_form HN.out.1
        have HT9 : Hid (Two w9 w1.heap.size (.slice av m cv) (.int .u64 (t : Nat))) := hide ((HN.out.2.block _ (Nat.lt_succ_self _)).trans HT3.out)
        have n0 := (cells2_of_blk HT9.out).1
        have f9 := frz HT9.out 0
        have HF9 : Hid (Below w1.heap.size w1 (w9.setCell ⟨w1.heap.size, 0, none⟩ (.slice a9 (m + 1) c9)) ∧ Two (w9.setCell ⟨w1.heap.size, 0, none⟩ (.slice a9 (m + 1) c9)) w1.heap.size (.slice a9 (m + 1) c9) (.int .u64 (t : Nat)) ∧ (w9.setCell ⟨w1.heap.size, 0, none⟩ (.slice a9 (m + 1) c9)).ownsRow (w1.heap.size + 1) 51 4 (.slice a9 (m + 1) c9) (m + 1) ((dn ++ [(⟨x1, x2, x3, false⟩ : Vr)]).flatMap vrc) ∧ w1.heap.size + 1 ≤ (w9.setCell ⟨w1.heap.size, 0, none⟩ (.slice a9 (m + 1) c9)).heap.size) := hide ⟨(HK3.out.trans (HN.out.2.mono (Nat.le_succ _))).setCell (p := ⟨w1.heap.size, 0, none⟩) (Nat.le_refl _) _, by have := blk_set2 (j := 0) HT9.out (.slice a9 (m + 1) c9); simpa using this, ownsRow_setCell_below (by simpa using HN.out.1) (Nat.lt_succ_self _) _, by have := HN.out.2.size; have := HS3.out; simp at *; omega⟩
        clear HN HK3 HT3 HO3 HN3 q0 e0 e1 e2 e3 hzz
        go_wp2
        go_roundw
        case rel => exact ⟨i, m + 1, _, _, by have := HIK.out; omega, by have := HIK.out; omega, by simp, hide ⟨HF9.out.1, HF9.out.2.1, HF9.out.2.2.1, HF9.out.2.2.2, HLL.out, HDN.out⟩⟩
        case measure => (have := HIK.out; simp [intOf]; omega)
      · by_cases htx : t < x2
        · have hti : (t : Int) < (x2 : Int) := by omega
          have HY : Hid (stayB t ⟨x1, x2, x3, true⟩ l[i]? = true) := hide (by unfold stayB; rw [HNB.out]; simp [htx])
          have HDN : Hid (docS t l = (dn ++ [⟨x1, x2, x3, true⟩]) ++ docS t (l.drop i)) := hide (by rw [HI.out.2.2.2.2.2, HST.out, if_pos HY.out, List.append_assoc])
          have HLL : Hid ((dn ++ [(⟨x1, x2, x3, true⟩ : Vr)]).length = m + 1) := hide (by rw [List.length_append, HI.out.2.2.2.2.1]; rfl)
          have HXB : Hid (IsV (wr.alloc (.cells #[.string x1, .int .u64 (x2 : Nat), .string x3, .bool true] 51)).drew (some ⟨wr.heap.size, 0, none⟩) 1 1 [⟨x1, x2, x3, true⟩]) := hide (isV_one ⟨x1, x2, x3, true⟩ (heap_alloc_new wr (.cells #[.string x1, .int .u64 (x2 : Nat), .string x3, .bool true] 51)))
          have HK3 : Hid (Below w1.heap.size w1 (((wr.alloc (.cells #[.string x1, .int .u64 (x2 : Nat), .string x3, .bool true] 51)).drew).alloc (.cells #[.string x1, .int .u64 (x2 : Nat), .string x3, .bool true] 51))) := hide (HK2.out.trans ((Below.refl _ _).alloc HK2.out.size _))
          have HT3 : Hid (Two (((wr.alloc (.cells #[.string x1, .int .u64 (x2 : Nat), .string x3, .bool true] 51)).drew).alloc (.cells #[.string x1, .int .u64 (x2 : Nat), .string x3, .bool true] 51)) w1.heap.size (.slice av m cv) (.int .u64 (t : Nat))) := hide ((heap_alloc_old _ _ _ (by have := HI.out.2.2.2.1; simp [World.drew]; omega)).trans HT2.out)
          have HO3 : Hid ((((wr.alloc (.cells #[.string x1, .int .u64 (x2 : Nat), .string x3, .bool true] 51)).drew).alloc (.cells #[.string x1, .int .u64 (x2 : Nat), .string x3, .bool true] 51)).ownsRow (w1.heap.size + 1) 51 4 (.slice av m cv) m (dn.flatMap vrc)) := hide (HOW.out.alloc _)
          have HN3 : Hid (IsV (((wr.alloc (.cells #[.string x1, .int .u64 (x2 : Nat), .string x3, .bool true] 51)).drew).alloc (.cells #[.string x1, .int .u64 (x2 : Nat), .string x3, .bool true] 51)) (some ⟨((wr.alloc (.cells #[.string x1, .int .u64 (x2 : Nat), .string x3, .bool true] 51)).drew).heap.size, 0, none⟩) 1 1 [⟨x1, x2, x3, true⟩]) := hide (isV_one ⟨x1, x2, x3, true⟩ (heap_alloc_new ((wr.alloc (.cells #[.string x1, .int .u64 (x2 : Nat), .string x3, .bool true] 51)).drew) (.cells #[.string x1, .int .u64 (x2 : Nat), .string x3, .bool true] 51)))
          have HBG : Hid ((m + 1) * 48 ≤ 140737488355328) := hide (by omega)
          have HS3 : Hid (w1.heap.size + 1 ≤ (((wr.alloc (.cells #[.string x1, .int .u64 (x2 : Nat), .string x3, .bool true] 51)).drew).alloc (.cells #[.string x1, .int .u64 (x2 : Nat), .string x3, .bool true] 51)).heap.size) := hide (by have := HI.out.2.2.2.1; simp [World.drew]; omega)
          have q0 := (cells2_of_blk HT2.out).1
          have e0 := HX0.out
          have e1 := HX1.out
          have e2 := HX2.out
          have e3 := HX3.out
          have hzz : ((wr.alloc (.cells #[.string x1, .int .u64 (x2 : Nat), .string x3, .bool true] 51)).drew).heap.size = wr.heap.size + 1 := by simp [World.drew]
          clear HXB
          rw [hzz] at HN3
          go_wp2_with (at_builtin; refine wpList_vers rfl _ _ rfl (w1.heap.size + 1) (.slice av m cv) m dn rfl HO3.out _ 1 1 _ rfl HN3.out HBG.out HS3.out ?_)
          intro v9 w9 HN
          obtain ⟨a9, c9, rfl⟩ := own_form HN.out.1
          have HT9 : Hid (Two w9 w1.heap.size (.slice av m cv) (.int .u64 (t : Nat))) := hide ((HN.out.2.block _ (Nat.lt_succ_self _)).trans HT3.out)
          have n0 := (cells2_of_blk HT9.out).1
          have f9 := frz HT9.out 0
          have HF9 : Hid (Below w1.heap.size w1 (w9.setCell ⟨w1.heap.size, 0, none⟩ (.slice a9 (m + 1) c9)) ∧ Two (w9.setCell ⟨w1.heap.size, 0, none⟩ (.slice a9 (m + 1) c9)) w1.heap.size (.slice a9 (m + 1) c9) (.int .u64 (t : Nat)) ∧ (w9.setCell ⟨w1.heap.size, 0, none⟩ (.slice a9 (m + 1) c9)).ownsRow (w1.heap.size + 1) 51 4 (.slice a9 (m + 1) c9) (m + 1) ((dn ++ [(⟨x1, x2, x3, true⟩ : Vr)]).flatMap vrc) ∧ w1.heap.size + 1 ≤ (w9.setCell ⟨w1.heap.size, 0, none⟩ (.slice a9 (m + 1) c9)).heap.size) := hide ⟨(HK3.out.trans (HN.out.2.mono (Nat.le_succ _))).setCell (p := ⟨w1.heap.size, 0, none⟩) (Nat.le_refl _) _, by have := blk_set2 (j := 0) HT9.out (.slice a9 (m + 1) c9); simpa using this, ownsRow_setCell_below (by simpa using HN.out.1) (Nat.lt_succ_self _) _, by have := HN.out.2.size; have := HS3.out; simp at *; omega⟩
          clear HN HK3 HT3 HO3 HN3 q0 e0 e1 e2 e3 hzz
          go_wp2
          go_roundw
          case rel => exact ⟨i, m + 1, _, _, by have := HIK.out; omega, by have := HIK.out; omega, by simp, hide ⟨HF9.out.1, HF9.out.2.1, HF9.out.2.2.1, HF9.out.2.2.2, HLL.out, HDN.out⟩⟩
          case measure => (have := HIK.out; simp [intOf]; omega)
        · have hti : ¬ (t : Int) < (x2 : Int) := by omega
          have HY : Hid (stayB t ⟨x1, x2, x3, true⟩ l[i]? = false) := hide (by unfold stayB; rw [HNB.out]; simp [htx])
          have HDN : Hid (docS t l = dn ++ docS t (l.drop i)) := hide (by rw [HI.out.2.2.2.2.2, HST.out, if_neg (by rw [HY.out]; simp)]; rfl)
          have e0 := HX0.out
          have e1 := HX1.out
          have e3 := HX3.out
          go_wp2
          go_roundw
          case rel => exact ⟨i, m, dn, _, by have := HIK.out; omega, by have := HIK.out; omega, by simp, hide ⟨HK2.out, HT2.out, HOW.out, HZ2.out, HI.out.2.2.2.2.1, HDN.out⟩⟩
          case measure => (have := HIK.out; simp [intOf]; omega)
    · have hid : decide ((i : Int) < (len : Int)) = true := decide_eq_true (by omega)
      have hin : (i : Int) < (len : Int) := by omega
      obtain ⟨hy0, hy1, hye⟩ := HPR.out hil
      generalize l.getD i Vr0 = y at *
      obtain ⟨y1, y2, y3, y4⟩ := y
      dsimp only at hy0 hy1
      have HS : Hid ((wr.alloc (.cells #[.string x1, .int .u64 (x2 : Nat), .string x3, .bool x4] 51)).drew.cell? ⟨w.heap.size, 0, none⟩ = some (.slice (some ⟨b, off, none⟩) len cap) ∧ (wr.alloc (.cells #[.string x1, .int .u64 (x2 : Nat), .string x3, .bool x4] 51)).drew.cell? ⟨wr.heap.size, 0, none⟩ = some (.string x1) ∧ (wr.alloc (.cells #[.string x1, .int .u64 (x2 : Nat), .string x3, .bool x4] 51)).drew.cell? ⟨b, off + i * 4, none⟩ = some (.string y1) ∧ (wr.alloc (.cells #[.string x1, .int .u64 (x2 : Nat), .string x3, .bool x4] 51)).drew.cell? ⟨b, off + i * 4 + 1, none⟩ = some (.int .u64 (y2 : Nat))) := hide ⟨hN0, HX0.out, (World.cell?_of_block (HBN.out.block b hbs)).trans hy0, (World.cell?_of_block (HBN.out.block b hbs)).trans hy1⟩
      cases hq : (y1.toList == x1.toList)
      · have HNB : Hid (nextB t ⟨x1, x2, x3, x4⟩ l[i]? = false) := hide (by rw [hye]; unfold nextB; dsimp only; rw [hq]; rfl)
        clear hN0 HPR hik hy0 hy1 hye
        go_wp2_with fail
        refine wp_region_held_drew (S := (fun W : World => W.cell? ⟨w.heap.size, 0, none⟩ = some (.slice (some ⟨b, off, none⟩) len cap) ∧ W.cell? ⟨wr.heap.size, 0, none⟩ = some (.string x1) ∧ W.cell? ⟨b, off + i * 4, none⟩ = some (.string y1) ∧ W.cell? ⟨b, off + i * 4 + 1, none⟩ = some (.int .u64 (y2 : Nat)))) (by kernel_rfl) ?hSpb (fun hHeld => ?_)
        case hSpb => exact HS.out
        refine hTake (i := 0) (v := ?v0pb) (some 38) rfl rfl (by kernel_rfl) (by kernel_rfl) (by kernel_rfl) (fun _ _ _ h => h) (by rfl) (by assumption) ?hy0pb ?hn0pb
        case hy0pb => (intro w hSw; (try dsimp only at hSw); go_simp; try with_reducible rfl)
        try simp only [Act.put, List.setIfInBounds_toArray, List.set_cons_zero, List.set_cons_succ]
        refine hTake (i := 1) (v := ?v1pb) (some 39) rfl rfl (by kernel_rfl) (by kernel_rfl) (by kernel_rfl) (fun _ _ _ h => h) (by rfl) (by assumption) ?hy1pb ?hn1pb
        case hy1pb => (intro w hSw; (try dsimp only at hSw); go_simp; try with_reducible rfl)
        try simp only [Act.put, List.setIfInBounds_toArray, List.set_cons_zero, List.set_cons_succ]
        refine hTake (i := 2) (v := ?v2pb) (some 40) rfl rfl (by kernel_rfl) (by kernel_rfl) (by kernel_rfl) (fun _ _ _ h => h) (by rfl) (by assumption) ?hy2pb ?hn2pb
        case hy2pb => (intro w hSw; (try dsimp only at hSw); go_simp; try with_reducible rfl)
        try simp only [Act.put, List.setIfInBounds_toArray, List.set_cons_zero, List.set_cons_succ]
        refine hTake (i := 3) (v := ?v3pb) (some 41) rfl rfl (by kernel_rfl) (by kernel_rfl) (by kernel_rfl) (fun _ _ _ h => h) (by rfl) (by assumption) ?hy3pb ?hn3pb
        case hy3pb => (intro w hSw; (try dsimp only at hSw); go_simp; try with_reducible rfl)
        try simp only [Act.put, List.setIfInBounds_toArray, List.set_cons_zero, List.set_cons_succ]
        refine hTake (i := 4) (v := ?v4pb) (some 42) rfl rfl (by kernel_rfl) (by kernel_rfl) (by kernel_rfl) (fun _ _ _ h => h) (by rfl) (by assumption) ?hy4pb ?hn4pb
        case hy4pb => (intro w hSw; (try dsimp only at hSw); go_simp; try with_reducible rfl)
        try simp only [Act.put, List.setIfInBounds_toArray, List.set_cons_zero, List.set_cons_succ]
        refine hTake (i := 5) (v := ?v5pb) (some 43) rfl rfl (by kernel_rfl) (by kernel_rfl) (by kernel_rfl) (fun _ _ _ h => h) (by rfl) (by assumption) ?hy5pb ?hn5pb
        case hy5pb => (intro w hSw; (try dsimp only at hSw); go_simp; try with_reducible rfl)
        try simp only [Act.put, List.setIfInBounds_toArray, List.set_cons_zero, List.set_cons_succ]
        refine hTake (i := 6) (v := ?v6pb) (some 44) rfl rfl (by kernel_rfl) (by kernel_rfl) (by kernel_rfl) (fun _ _ _ h => h) (by rfl) (by assumption) ?hy6pb ?hn6pb
        case hy6pb => (intro w hSw; (try dsimp only at hSw); go_simp; try with_reducible rfl)
        try simp only [Act.put, List.setIfInBounds_toArray, List.set_cons_zero, List.set_cons_succ]
        refine hTake (i := 7) (v := ?v7pb) (some 45) rfl rfl (by kernel_rfl) (by kernel_rfl) (by kernel_rfl) (fun _ _ _ h => h) (by rfl) (by assumption) ?hy7pb ?hn7pb
        case hy7pb => (intro w hSw; (try dsimp only at hSw); go_simp; try with_reducible rfl)
        try simp only [Act.put, List.setIfInBounds_toArray, List.set_cons_zero, List.set_cons_succ]
        refine hTake (i := 8) (v := ?v8pb) (some 46) rfl rfl (by kernel_rfl) (by kernel_rfl) (by kernel_rfl) (fun _ _ _ h => h) (by rfl) (by assumption) ?hy8pb ?hn8pb
        case hy8pb => (intro w hSw; (try dsimp only at hSw); go_simp; try with_reducible rfl)
        try simp only [Act.put, List.setIfInBounds_toArray, List.set_cons_zero, List.set_cons_succ]
        refine hTake (i := 9) (v := ?v9pb) (some 47) rfl rfl (by kernel_rfl) (by kernel_rfl) (by kernel_rfl) (fun _ _ _ h => h) (by rfl) (by assumption) ?hy9pb ?hn9pb
        case hy9pb => (intro w hSw; (try dsimp only at hSw); go_simp; try with_reducible rfl)
        try simp only [Act.put, List.setIfInBounds_toArray, List.set_cons_zero, List.set_cons_succ]
        refine hTake (i := 10) (v := ?v10pb) (some 48) rfl rfl (by kernel_rfl) (by kernel_rfl) (by kernel_rfl) (fun _ _ _ h => h) (by rfl) (by assumption) ?hy10pb ?hn10pb
        case hy10pb => (intro w hSw; (try dsimp only at hSw); go_simp; try with_reducible rfl)
        try simp only [Act.put, List.setIfInBounds_toArray, List.set_cons_zero, List.set_cons_succ]
        refine hTake (i := 11) (v := ?v11pb) (some 49) rfl rfl (by kernel_rfl) (by kernel_rfl) (by kernel_rfl) (fun _ _ _ h => h) (by rfl) (by assumption) ?hy11pb ?hn11pb
        case hy11pb => (intro w hSw; (try dsimp only at hSw); go_simp; try with_reducible rfl)
        try simp only [Act.put, List.setIfInBounds_toArray, List.set_cons_zero, List.set_cons_succ]
        refine hTake (i := 12) (v := ?v12pb) (some 50) rfl rfl (by kernel_rfl) (by kernel_rfl) (by kernel_rfl) (fun _ _ _ h => h) (by rfl) (by assumption) ?hy12pb ?hn12pb
        case hy12pb => (intro w hSw; (try dsimp only at hSw); go_simp; try with_reducible rfl)
        try simp only [Act.put, List.setIfInBounds_toArray, List.set_cons_zero, List.set_cons_succ]
        refine hTake (i := 13) (v := ?v13pb) (some 51) rfl rfl (by kernel_rfl) (by kernel_rfl) (by kernel_rfl) (fun _ _ _ h => h) (by rfl) (by assumption) ?hy13pb ?hn13pb
        case hy13pb => (intro w hSw; (try dsimp only at hSw); go_simp; try with_reducible rfl)
        try simp only [Act.put, List.setIfInBounds_toArray, List.set_cons_zero, List.set_cons_succ]
        refine hTake (i := 14) (v := ?v14pb) (some 52) rfl rfl (by kernel_rfl) (by kernel_rfl) (by kernel_rfl) (fun _ _ _ h => h) (by rfl) (by assumption) ?hy14pb ?hn14pb
        case hy14pb => (intro w hSw; (try dsimp only at hSw); go_simp; try with_reducible rfl)
        try simp only [Act.put, List.setIfInBounds_toArray, List.set_cons_zero, List.set_cons_succ]
        refine hTake (i := 15) (v := ?v15pb) (some 53) rfl rfl (by kernel_rfl) (by kernel_rfl) (by kernel_rfl) (fun _ _ _ h => h) (by rfl) (by assumption) ?hy15pb ?hn15pb
        case hy15pb => (intro w hSw; (try dsimp only at hSw); go_simp; try with_reducible rfl)
        try simp only [Act.put, List.setIfInBounds_toArray, List.set_cons_zero, List.set_cons_succ]
        refine hTake (i := 16) (v := ?v16pb) (some 54) rfl rfl (by kernel_rfl) (by kernel_rfl) (by kernel_rfl) (fun _ _ _ h => h) (by rfl) (by assumption) ?hy16pb ?hn16pb
        case hy16pb => (intro w hSw; (try dsimp only at hSw); go_simp; try with_reducible rfl)
        try simp only [Act.put, List.setIfInBounds_toArray, List.set_cons_zero, List.set_cons_succ]
        refine hTake (i := 17) (v := ?v17pb) (some 55) rfl rfl (by kernel_rfl) (by kernel_rfl) (by kernel_rfl) (fun _ _ _ h => h) (by rfl) (by assumption) ?hy17pb ?hn17pb
        case hy17pb => (intro w hSw; (try dsimp only at hSw); go_simp; try with_reducible rfl)
        try simp only [Act.put, List.setIfInBounds_toArray, List.set_cons_zero, List.set_cons_succ]
        refine hTake (i := 18) (v := ?v18pb) (some 56) rfl rfl (by kernel_rfl) (by kernel_rfl) (by kernel_rfl) (fun _ _ _ h => h) (by rfl) (by assumption) ?hy18pb ?hn18pb
        case hy18pb => (intro w hSw; (try dsimp only at hSw); go_simp; try with_reducible rfl)
        try simp only [Act.put, List.setIfInBounds_toArray, List.set_cons_zero, List.set_cons_succ]
        refine hSkip (i := 19) (some 57) rfl rfl (by kernel_rfl) (by kernel_rfl) (by kernel_rfl) (fun _ _ _ h => h) (by rfl) (by assumption) ?_
        try simp only [Act.put, List.setIfInBounds_toArray, List.set_cons_zero, List.set_cons_succ]
        refine hSkip (i := 20) (some 58) rfl rfl (by kernel_rfl) (by kernel_rfl) (by kernel_rfl) (fun _ _ _ h => h) (by rfl) (by assumption) ?_
        try simp only [Act.put, List.setIfInBounds_toArray, List.set_cons_zero, List.set_cons_succ]
        refine hSkip (i := 21) (some 59) rfl rfl (by kernel_rfl) (by kernel_rfl) (by kernel_rfl) (fun _ _ _ h => h) (by rfl) (by assumption) ?_
        try simp only [Act.put, List.setIfInBounds_toArray, List.set_cons_zero, List.set_cons_succ]
        refine hSkip (i := 22) (some 60) rfl rfl (by kernel_rfl) (by kernel_rfl) (by kernel_rfl) (fun _ _ _ h => h) (by rfl) (by assumption) ?_
        try simp only [Act.put, List.setIfInBounds_toArray, List.set_cons_zero, List.set_cons_succ]
        refine hSkip (i := 23) (some 61) rfl rfl (by kernel_rfl) (by kernel_rfl) (by kernel_rfl) (fun _ _ _ h => h) (by rfl) (by assumption) ?_
        try simp only [Act.put, List.setIfInBounds_toArray, List.set_cons_zero, List.set_cons_succ]
        refine hSkip (i := 24) (some 62) rfl rfl (by kernel_rfl) (by kernel_rfl) (by kernel_rfl) (fun _ _ _ h => h) (by rfl) (by assumption) ?_
        try simp only [Act.put, List.setIfInBounds_toArray, List.set_cons_zero, List.set_cons_succ]
        refine hSkip (i := 25) (some 63) rfl rfl (by kernel_rfl) (by kernel_rfl) (by kernel_rfl) (fun _ _ _ h => h) (by rfl) (by assumption) ?_
        try simp only [Act.put, List.setIfInBounds_toArray, List.set_cons_zero, List.set_cons_succ]
        refine hSkip (i := 26) (some 64) rfl rfl (by kernel_rfl) (by kernel_rfl) (by kernel_rfl) (fun _ _ _ h => h) (by rfl) (by assumption) ?_
        try simp only [Act.put, List.setIfInBounds_toArray, List.set_cons_zero, List.set_cons_succ]
        refine hSkip (i := 27) (some 65) rfl rfl (by kernel_rfl) (by kernel_rfl) (by kernel_rfl) (fun _ _ _ h => h) (by rfl) (by assumption) ?_
        try simp only [Act.put, List.setIfInBounds_toArray, List.set_cons_zero, List.set_cons_succ]
        refine hTake (i := 28) (v := ?v28pb) (some 66) rfl rfl (by kernel_rfl) (by kernel_rfl) (by kernel_rfl) (fun _ _ _ h => h) (by rfl) (by assumption) ?hy28pb ?hn28pb
        case hy28pb => (intro w hSw; (try dsimp only at hSw); go_simp; try with_reducible rfl)
        try simp only [Act.put, List.setIfInBounds_toArray, List.set_cons_zero, List.set_cons_succ]
        refine hTake (i := 29) (v := ?v29pb) (some 10) rfl rfl (by kernel_rfl) (by kernel_rfl) (by kernel_rfl) (fun _ _ _ h => h) (by rfl) (by assumption) ?hy29pb ?hn29pb
        case hy29pb => (intro w hSw; (try dsimp only at hSw); go_simp; try with_reducible rfl)
        try simp only [Act.put, List.setIfInBounds_toArray, List.set_cons_zero, List.set_cons_succ]
        refine wpAnyH_done (by kernel_rfl) ?_ _
        cases x4
        · have HY : Hid (stayB t ⟨x1, x2, x3, false⟩ l[i]? = true) := hide (by unfold stayB; rw [HNB.out]; rfl)
          have HDN : Hid (docS t l = (dn ++ [⟨x1, x2, x3, false⟩]) ++ docS t (l.drop i)) := hide (by rw [HI.out.2.2.2.2.2, HST.out, if_pos HY.out, List.append_assoc])
          have HLL : Hid ((dn ++ [(⟨x1, x2, x3, false⟩ : Vr)]).length = m + 1) := hide (by rw [List.length_append, HI.out.2.2.2.2.1]; rfl)
          have HXB : Hid (IsV (wr.alloc (.cells #[.string x1, .int .u64 (x2 : Nat), .string x3, .bool false] 51)).drew (some ⟨wr.heap.size, 0, none⟩) 1 1 [⟨x1, x2, x3, false⟩]) := hide (isV_one ⟨x1, x2, x3, false⟩ (heap_alloc_new wr (.cells #[.string x1, .int .u64 (x2 : Nat), .string x3, .bool false] 51)))
          have HK3 : Hid (Below w1.heap.size w1 (((wr.alloc (.cells #[.string x1, .int .u64 (x2 : Nat), .string x3, .bool false] 51)).drew).alloc (.cells #[.string x1, .int .u64 (x2 : Nat), .string x3, .bool false] 51))) := hide (HK2.out.trans ((Below.refl _ _).alloc HK2.out.size _))
          have HT3 : Hid (Two (((wr.alloc (.cells #[.string x1, .int .u64 (x2 : Nat), .string x3, .bool false] 51)).drew).alloc (.cells #[.string x1, .int .u64 (x2 : Nat), .string x3, .bool false] 51)) w1.heap.size (.slice av m cv) (.int .u64 (t : Nat))) := hide ((heap_alloc_old _ _ _ (by have := HI.out.2.2.2.1; simp [World.drew]; omega)).trans HT2.out)
          have HO3 : Hid ((((wr.alloc (.cells #[.string x1, .int .u64 (x2 : Nat), .string x3, .bool false] 51)).drew).alloc (.cells #[.string x1, .int .u64 (x2 : Nat), .string x3, .bool false] 51)).ownsRow (w1.heap.size + 1) 51 4 (.slice av m cv) m (dn.flatMap vrc)) := hide (HOW.out.alloc _)
          have HN3 : Hid (IsV (((wr.alloc (.cells #[.string x1, .int .u64 (x2 : Nat), .string x3, .bool false] 51)).drew).alloc (.cells #[.string x1, .int .u64 (x2 : Nat), .string x3, .bool false] 51)) (some ⟨((wr.alloc (.cells #[.string x1, .int .u64 (x2 : Nat), .string x3, .bool false] 51)).drew).heap.size, 0, none⟩) 1 1 [⟨x1, x2, x3, false⟩]) := hide (isV_one ⟨x1, x2, x3, false⟩ (heap_alloc_new ((wr.alloc (.cells #[.string x1, .int .u64 (x2 : Nat), .string x3, .bool false] 51)).drew) (.cells #[.string x1, .int .u64 (x2 : Nat), .string x3, .bool false] 51)))
          have HBG : Hid ((m + 1) * 48 ≤ 140737488355328) := hide (by omega)
          have HS3 : Hid (w1.heap.size + 1 ≤ (((wr.alloc (.cells #[.string x1, .int .u64 (x2 : Nat), .string x3, .bool false] 51)).drew).alloc (.cells #[.string x1, .int .u64 (x2 : Nat), .string x3, .bool false] 51)).heap.size) := hide (by have := HI.out.2.2.2.1; simp [World.drew]; omega)
          have q0 := (cells2_of_blk HT2.out).1
          have e0 := HX0.out
          have e1 := HX1.out
          have e2 := HX2.out
          have e3 := HX3.out
          have hzz : ((wr.alloc (.cells #[.string x1, .int .u64 (x2 : Nat), .string x3, .bool false] 51)).drew).heap.size = wr.heap.size + 1 := by simp [World.drew]
          clear HXB
          rw [hzz] at HN3
          go_wp2_with (at_builtin; refine wpList_vers rfl _ _ rfl (w1.heap.size + 1) (.slice av m cv) m dn rfl HO3.out _ 1 1 _ rfl HN3.out HBG.out HS3.out ?_)
          intro v9 w9 HN
          obtain ⟨a9, c9, rfl⟩ := own_form HN.out.1
          have HT9 : Hid (Two w9 w1.heap.size (.slice av m cv) (.int .u64 (t : Nat))) := hide ((HN.out.2.block _ (Nat.lt_succ_self _)).trans HT3.out)
          have n0 := (cells2_of_blk HT9.out).1
          have f9 := frz HT9.out 0
          have HF9 : Hid (Below w1.heap.size w1 (w9.setCell ⟨w1.heap.size, 0, none⟩ (.slice a9 (m + 1) c9)) ∧ Two (w9.setCell ⟨w1.heap.size, 0, none⟩ (.slice a9 (m + 1) c9)) w1.heap.size (.slice a9 (m + 1) c9) (.int .u64 (t : Nat)) ∧ (w9.setCell ⟨w1.heap.size, 0, none⟩ (.slice a9 (m + 1) c9)).ownsRow (w1.heap.size + 1) 51 4 (.slice a9 (m + 1) c9) (m + 1) ((dn ++ [(⟨x1, x2, x3, false⟩ : Vr)]).flatMap vrc) ∧ w1.heap.size + 1 ≤ (w9.setCell ⟨w1.heap.size, 0, none⟩ (.slice a9 (m + 1) c9)).heap.size) := hide ⟨(HK3.out.trans (HN.out.2.mono (Nat.le_succ _))).setCell (p := ⟨w1.heap.size, 0, none⟩) (Nat.le_refl _) _, by have := blk_set2 (j := 0) HT9.out (.slice a9 (m + 1) c9); simpa using this, ownsRow_setCell_below (by simpa using HN.out.1) (Nat.lt_succ_self _) _, by have := HN.out.2.size; have := HS3.out; simp at *; omega⟩
          clear HN HK3 HT3 HO3 HN3 q0 e0 e1 e2 e3 hzz
          go_wp2
          go_roundw
          case rel => exact ⟨i, m + 1, _, _, by have := HIK.out; omega, by have := HIK.out; omega, by simp, hide ⟨HF9.out.1, HF9.out.2.1, HF9.out.2.2.1, HF9.out.2.2.2, HLL.out, HDN.out⟩⟩
          case measure => (have := HIK.out; simp [intOf]; omega)
        · by_cases htx : t < x2
          · have hti : (t : Int) < (x2 : Int) := by omega
            have HY : Hid (stayB t ⟨x1, x2, x3, true⟩ l[i]? = true) := hide (by unfold stayB; rw [HNB.out]; simp [htx])
            have HDN : Hid (docS t l = (dn ++ [⟨x1, x2, x3, true⟩]) ++ docS t (l.drop i)) := hide (by rw [HI.out.2.2.2.2.2, HST.out, if_pos HY.out, List.append_assoc])
            have HLL : Hid ((dn ++ [(⟨x1, x2, x3, true⟩ : Vr)]).length = m + 1) := hide (by rw [List.length_append, HI.out.2.2.2.2.1]; rfl)
            have HXB : Hid (IsV (wr.alloc (.cells #[.string x1, .int .u64 (x2 : Nat), .string x3, .bool true] 51)).drew (some ⟨wr.heap.size, 0, none⟩) 1 1 [⟨x1, x2, x3, true⟩]) := hide (isV_one ⟨x1, x2, x3, true⟩ (heap_alloc_new wr (.cells #[.string x1, .int .u64 (x2 : Nat), .string x3, .bool true] 51)))
            have HK3 : Hid (Below w1.heap.size w1 (((wr.alloc (.cells #[.string x1, .int .u64 (x2 : Nat), .string x3, .bool true] 51)).drew).alloc (.cells #[.string x1, .int .u64 (x2 : Nat), .string x3, .bool true] 51))) := hide (HK2.out.trans ((Below.refl _ _).alloc HK2.out.size _))
            have HT3 : Hid (Two (((wr.alloc (.cells #[.string x1, .int .u64 (x2 : Nat), .string x3, .bool true] 51)).drew).alloc (.cells #[.string x1, .int .u64 (x2 : Nat), .string x3, .bool true] 51)) w1.heap.size (.slice av m cv) (.int .u64 (t : Nat))) := hide ((heap_alloc_old _ _ _ (by have := HI.out.2.2.2.1; simp [World.drew]; omega)).trans HT2.out)
            have HO3 : Hid ((((wr.alloc (.cells #[.string x1, .int .u64 (x2 : Nat), .string x3, .bool true] 51)).drew).alloc (.cells #[.string x1, .int .u64 (x2 : Nat), .string x3, .bool true] 51)).ownsRow (w1.heap.size + 1) 51 4 (.slice av m cv) m (dn.flatMap vrc)) := hide (HOW.out.alloc _)
            have HN3 : Hid (IsV (((wr.alloc (.cells #[.string x1, .int .u64 (x2 : Nat), .string x3, .bool true] 51)).drew).alloc (.cells #[.string x1, .int .u64 (x2 : Nat), .string x3, .bool true] 51)) (some ⟨((wr.alloc (.cells #[.string x1, .int .u64 (x2 : Nat), .string x3, .bool true] 51)).drew).heap.size, 0, none⟩) 1 1 [⟨x1, x2, x3, true⟩]) := hide (isV_one ⟨x1, x2, x3, true⟩ (heap_alloc_new ((wr.alloc (.cells #[.string x1, .int .u64 (x2 : Nat), .string x3, .bool true] 51)).drew) (.cells #[.string x1, .int .u64 (x2 : Nat), .string x3, .bool true] 51)))
            have HBG : Hid ((m + 1) * 48 ≤ 140737488355328) := hide (by omega)
            have HS3 : Hid (w1.heap.size + 1 ≤ (((wr.alloc (.cells #[.string x1, .int .u64 (x2 : Nat), .string x3, .bool true] 51)).drew).alloc (.cells #[.string x1, .int .u64 (x2 : Nat), .string x3, .bool true] 51)).heap.size) := hide (by have := HI.out.2.2.2.1; simp [World.drew]; omega)
            have q0 := (cells2_of_blk HT2.out).1
            have e0 := HX0.out
            have e1 := HX1.out
            have e2 := HX2.out
            have e3 := HX3.out
            have hzz : ((wr.alloc (.cells #[.string x1, .int .u64 (x2 : Nat), .string x3, .bool true] 51)).drew).heap.size = wr.heap.size + 1 := by simp [World.drew]
            clear HXB
            rw [hzz] at HN3
            go_wp2_with (at_builtin; refine wpList_vers rfl _ _ rfl (w1.heap.size + 1) (.slice av m cv) m dn rfl HO3.out _ 1 1 _ rfl HN3.out HBG.out HS3.out ?_)
            intro v9 w9 HN
            obtain ⟨a9, c9, rfl⟩ := own_form HN.out.1
            have HT9 : Hid (Two w9 w1.heap.size (.slice av m cv) (.int .u64 (t : Nat))) := hide ((HN.out.2.block _ (Nat.lt_succ_self _)).trans HT3.out)
            have n0 := (cells2_of_blk HT9.out).1
            have f9 := frz HT9.out 0
            have HF9 : Hid (Below w1.heap.size w1 (w9.setCell ⟨w1.heap.size, 0, none⟩ (.slice a9 (m + 1) c9)) ∧ Two (w9.setCell ⟨w1.heap.size, 0, none⟩ (.slice a9 (m + 1) c9)) w1.heap.size (.slice a9 (m + 1) c9) (.int .u64 (t : Nat)) ∧ (w9.setCell ⟨w1.heap.size, 0, none⟩ (.slice a9 (m + 1) c9)).ownsRow (w1.heap.size + 1) 51 4 (.slice a9 (m + 1) c9) (m + 1) ((dn ++ [(⟨x1, x2, x3, true⟩ : Vr)]).flatMap vrc) ∧ w1.heap.size + 1 ≤ (w9.setCell ⟨w1.heap.size, 0, none⟩ (.slice a9 (m + 1) c9)).heap.size) := hide ⟨(HK3.out.trans (HN.out.2.mono (Nat.le_succ _))).setCell (p := ⟨w1.heap.size, 0, none⟩) (Nat.le_refl _) _, by have := blk_set2 (j := 0) HT9.out (.slice a9 (m + 1) c9); simpa using this, ownsRow_setCell_below (by simpa using HN.out.1) (Nat.lt_succ_self _) _, by have := HN.out.2.size; have := HS3.out; simp at *; omega⟩
            clear HN HK3 HT3 HO3 HN3 q0 e0 e1 e2 e3 hzz
            go_wp2
            go_roundw
            case rel => exact ⟨i, m + 1, _, _, by have := HIK.out; omega, by have := HIK.out; omega, by simp, hide ⟨HF9.out.1, HF9.out.2.1, HF9.out.2.2.1, HF9.out.2.2.2, HLL.out, HDN.out⟩⟩
            case measure => (have := HIK.out; simp [intOf]; omega)
          · have hti : ¬ (t : Int) < (x2 : Int) := by omega
            have HY : Hid (stayB t ⟨x1, x2, x3, true⟩ l[i]? = false) := hide (by unfold stayB; rw [HNB.out]; simp [htx])
            have HDN : Hid (docS t l = dn ++ docS t (l.drop i)) := hide (by rw [HI.out.2.2.2.2.2, HST.out, if_neg (by rw [HY.out]; simp)]; rfl)
            have e0 := HX0.out
            have e1 := HX1.out
            have e3 := HX3.out
            go_wp2
            go_roundw
            case rel => exact ⟨i, m, dn, _, by have := HIK.out; omega, by have := HIK.out; omega, by simp, hide ⟨HK2.out, HT2.out, HOW.out, HZ2.out, HI.out.2.2.2.2.1, HDN.out⟩⟩
            case measure => (have := HIK.out; simp [intOf]; omega)
      · by_cases hyt : y2 ≤ t
        · have hyI : (y2 : Int) ≤ (t : Int) := by omega
          have HNB : Hid (nextB t ⟨x1, x2, x3, x4⟩ l[i]? = true) := hide (by rw [hye]; unfold nextB; dsimp only; rw [hq]; simpa using hyt)
          clear hN0 HPR hik hy0 hy1 hye
          go_wp2_with fail
          refine wp_region_held_drew (S := (fun W : World => W.cell? ⟨w.heap.size, 0, none⟩ = some (.slice (some ⟨b, off, none⟩) len cap) ∧ W.cell? ⟨wr.heap.size, 0, none⟩ = some (.string x1) ∧ W.cell? ⟨b, off + i * 4, none⟩ = some (.string y1) ∧ W.cell? ⟨b, off + i * 4 + 1, none⟩ = some (.int .u64 (y2 : Nat)))) (by kernel_rfl) ?hSpc (fun hHeld => ?_)
          case hSpc => exact HS.out
          refine hTake (i := 0) (v := ?v0pc) (some 38) rfl rfl (by kernel_rfl) (by kernel_rfl) (by kernel_rfl) (fun _ _ _ h => h) (by rfl) (by assumption) ?hy0pc ?hn0pc
          case hy0pc => (intro w hSw; (try dsimp only at hSw); go_simp; try with_reducible rfl)
          try simp only [Act.put, List.setIfInBounds_toArray, List.set_cons_zero, List.set_cons_succ]
          refine hTake (i := 1) (v := ?v1pc) (some 39) rfl rfl (by kernel_rfl) (by kernel_rfl) (by kernel_rfl) (fun _ _ _ h => h) (by rfl) (by assumption) ?hy1pc ?hn1pc
          case hy1pc => (intro w hSw; (try dsimp only at hSw); go_simp; try with_reducible rfl)
          try simp only [Act.put, List.setIfInBounds_toArray, List.set_cons_zero, List.set_cons_succ]
          refine hTake (i := 2) (v := ?v2pc) (some 40) rfl rfl (by kernel_rfl) (by kernel_rfl) (by kernel_rfl) (fun _ _ _ h => h) (by rfl) (by assumption) ?hy2pc ?hn2pc
          case hy2pc => (intro w hSw; (try dsimp only at hSw); go_simp; try with_reducible rfl)
          try simp only [Act.put, List.setIfInBounds_toArray, List.set_cons_zero, List.set_cons_succ]
          refine hTake (i := 3) (v := ?v3pc) (some 41) rfl rfl (by kernel_rfl) (by kernel_rfl) (by kernel_rfl) (fun _ _ _ h => h) (by rfl) (by assumption) ?hy3pc ?hn3pc
          case hy3pc => (intro w hSw; (try dsimp only at hSw); go_simp; try with_reducible rfl)
          try simp only [Act.put, List.setIfInBounds_toArray, List.set_cons_zero, List.set_cons_succ]
          refine hTake (i := 4) (v := ?v4pc) (some 42) rfl rfl (by kernel_rfl) (by kernel_rfl) (by kernel_rfl) (fun _ _ _ h => h) (by rfl) (by assumption) ?hy4pc ?hn4pc
          case hy4pc => (intro w hSw; (try dsimp only at hSw); go_simp; try with_reducible rfl)
          try simp only [Act.put, List.setIfInBounds_toArray, List.set_cons_zero, List.set_cons_succ]
          refine hTake (i := 5) (v := ?v5pc) (some 43) rfl rfl (by kernel_rfl) (by kernel_rfl) (by kernel_rfl) (fun _ _ _ h => h) (by rfl) (by assumption) ?hy5pc ?hn5pc
          case hy5pc => (intro w hSw; (try dsimp only at hSw); go_simp; try with_reducible rfl)
          try simp only [Act.put, List.setIfInBounds_toArray, List.set_cons_zero, List.set_cons_succ]
          refine hTake (i := 6) (v := ?v6pc) (some 44) rfl rfl (by kernel_rfl) (by kernel_rfl) (by kernel_rfl) (fun _ _ _ h => h) (by rfl) (by assumption) ?hy6pc ?hn6pc
          case hy6pc => (intro w hSw; (try dsimp only at hSw); go_simp; try with_reducible rfl)
          try simp only [Act.put, List.setIfInBounds_toArray, List.set_cons_zero, List.set_cons_succ]
          refine hTake (i := 7) (v := ?v7pc) (some 45) rfl rfl (by kernel_rfl) (by kernel_rfl) (by kernel_rfl) (fun _ _ _ h => h) (by rfl) (by assumption) ?hy7pc ?hn7pc
          case hy7pc => (intro w hSw; (try dsimp only at hSw); go_simp; try with_reducible rfl)
          try simp only [Act.put, List.setIfInBounds_toArray, List.set_cons_zero, List.set_cons_succ]
          refine hTake (i := 8) (v := ?v8pc) (some 46) rfl rfl (by kernel_rfl) (by kernel_rfl) (by kernel_rfl) (fun _ _ _ h => h) (by rfl) (by assumption) ?hy8pc ?hn8pc
          case hy8pc => (intro w hSw; (try dsimp only at hSw); go_simp; try with_reducible rfl)
          try simp only [Act.put, List.setIfInBounds_toArray, List.set_cons_zero, List.set_cons_succ]
          refine hTake (i := 9) (v := ?v9pc) (some 47) rfl rfl (by kernel_rfl) (by kernel_rfl) (by kernel_rfl) (fun _ _ _ h => h) (by rfl) (by assumption) ?hy9pc ?hn9pc
          case hy9pc => (intro w hSw; (try dsimp only at hSw); go_simp; try with_reducible rfl)
          try simp only [Act.put, List.setIfInBounds_toArray, List.set_cons_zero, List.set_cons_succ]
          refine hTake (i := 10) (v := ?v10pc) (some 48) rfl rfl (by kernel_rfl) (by kernel_rfl) (by kernel_rfl) (fun _ _ _ h => h) (by rfl) (by assumption) ?hy10pc ?hn10pc
          case hy10pc => (intro w hSw; (try dsimp only at hSw); go_simp; try with_reducible rfl)
          try simp only [Act.put, List.setIfInBounds_toArray, List.set_cons_zero, List.set_cons_succ]
          refine hTake (i := 11) (v := ?v11pc) (some 49) rfl rfl (by kernel_rfl) (by kernel_rfl) (by kernel_rfl) (fun _ _ _ h => h) (by rfl) (by assumption) ?hy11pc ?hn11pc
          case hy11pc => (intro w hSw; (try dsimp only at hSw); go_simp; try with_reducible rfl)
          try simp only [Act.put, List.setIfInBounds_toArray, List.set_cons_zero, List.set_cons_succ]
          refine hTake (i := 12) (v := ?v12pc) (some 50) rfl rfl (by kernel_rfl) (by kernel_rfl) (by kernel_rfl) (fun _ _ _ h => h) (by rfl) (by assumption) ?hy12pc ?hn12pc
          case hy12pc => (intro w hSw; (try dsimp only at hSw); go_simp; try with_reducible rfl)
          try simp only [Act.put, List.setIfInBounds_toArray, List.set_cons_zero, List.set_cons_succ]
          refine hTake (i := 13) (v := ?v13pc) (some 51) rfl rfl (by kernel_rfl) (by kernel_rfl) (by kernel_rfl) (fun _ _ _ h => h) (by rfl) (by assumption) ?hy13pc ?hn13pc
          case hy13pc => (intro w hSw; (try dsimp only at hSw); go_simp; try with_reducible rfl)
          try simp only [Act.put, List.setIfInBounds_toArray, List.set_cons_zero, List.set_cons_succ]
          refine hTake (i := 14) (v := ?v14pc) (some 52) rfl rfl (by kernel_rfl) (by kernel_rfl) (by kernel_rfl) (fun _ _ _ h => h) (by rfl) (by assumption) ?hy14pc ?hn14pc
          case hy14pc => (intro w hSw; (try dsimp only at hSw); go_simp; try with_reducible rfl)
          try simp only [Act.put, List.setIfInBounds_toArray, List.set_cons_zero, List.set_cons_succ]
          refine hTake (i := 15) (v := ?v15pc) (some 53) rfl rfl (by kernel_rfl) (by kernel_rfl) (by kernel_rfl) (fun _ _ _ h => h) (by rfl) (by assumption) ?hy15pc ?hn15pc
          case hy15pc => (intro w hSw; (try dsimp only at hSw); go_simp; try with_reducible rfl)
          try simp only [Act.put, List.setIfInBounds_toArray, List.set_cons_zero, List.set_cons_succ]
          refine hTake (i := 16) (v := ?v16pc) (some 54) rfl rfl (by kernel_rfl) (by kernel_rfl) (by kernel_rfl) (fun _ _ _ h => h) (by rfl) (by assumption) ?hy16pc ?hn16pc
          case hy16pc => (intro w hSw; (try dsimp only at hSw); go_simp; try with_reducible rfl)
          try simp only [Act.put, List.setIfInBounds_toArray, List.set_cons_zero, List.set_cons_succ]
          refine hTake (i := 17) (v := ?v17pc) (some 55) rfl rfl (by kernel_rfl) (by kernel_rfl) (by kernel_rfl) (fun _ _ _ h => h) (by rfl) (by assumption) ?hy17pc ?hn17pc
          case hy17pc => (intro w hSw; (try dsimp only at hSw); go_simp; try with_reducible rfl)
          try simp only [Act.put, List.setIfInBounds_toArray, List.set_cons_zero, List.set_cons_succ]
          refine hTake (i := 18) (v := ?v18pc) (some 56) rfl rfl (by kernel_rfl) (by kernel_rfl) (by kernel_rfl) (fun _ _ _ h => h) (by rfl) (by assumption) ?hy18pc ?hn18pc
          case hy18pc => (intro w hSw; (try dsimp only at hSw); go_simp; try with_reducible rfl)
          try simp only [Act.put, List.setIfInBounds_toArray, List.set_cons_zero, List.set_cons_succ]
          refine hTake (i := 19) (v := ?v19pc) (some 57) rfl rfl (by kernel_rfl) (by kernel_rfl) (by kernel_rfl) (fun _ _ _ h => h) (by rfl) (by assumption) ?hy19pc ?hn19pc
          case hy19pc => (intro w hSw; (try dsimp only at hSw); go_simp; try with_reducible rfl)
          try simp only [Act.put, List.setIfInBounds_toArray, List.set_cons_zero, List.set_cons_succ]
          refine hTake (i := 20) (v := ?v20pc) (some 58) rfl rfl (by kernel_rfl) (by kernel_rfl) (by kernel_rfl) (fun _ _ _ h => h) (by rfl) (by assumption) ?hy20pc ?hn20pc
          case hy20pc => (intro w hSw; (try dsimp only at hSw); go_simp; try with_reducible rfl)
          try simp only [Act.put, List.setIfInBounds_toArray, List.set_cons_zero, List.set_cons_succ]
          refine hTake (i := 21) (v := ?v21pc) (some 59) rfl rfl (by kernel_rfl) (by kernel_rfl) (by kernel_rfl) (fun _ _ _ h => h) (by rfl) (by assumption) ?hy21pc ?hn21pc
          case hy21pc => (intro w hSw; (try dsimp only at hSw); go_simp; try with_reducible rfl)
          try simp only [Act.put, List.setIfInBounds_toArray, List.set_cons_zero, List.set_cons_succ]
          refine hTake (i := 22) (v := ?v22pc) (some 60) rfl rfl (by kernel_rfl) (by kernel_rfl) (by kernel_rfl) (fun _ _ _ h => h) (by rfl) (by assumption) ?hy22pc ?hn22pc
          case hy22pc => (intro w hSw; (try dsimp only at hSw); go_simp; try with_reducible rfl)
          try simp only [Act.put, List.setIfInBounds_toArray, List.set_cons_zero, List.set_cons_succ]
          refine hTake (i := 23) (v := ?v23pc) (some 61) rfl rfl (by kernel_rfl) (by kernel_rfl) (by kernel_rfl) (fun _ _ _ h => h) (by rfl) (by assumption) ?hy23pc ?hn23pc
          case hy23pc => (intro w hSw; (try dsimp only at hSw); go_simp; try with_reducible rfl)
          try simp only [Act.put, List.setIfInBounds_toArray, List.set_cons_zero, List.set_cons_succ]
          refine hTake (i := 24) (v := ?v24pc) (some 62) rfl rfl (by kernel_rfl) (by kernel_rfl) (by kernel_rfl) (fun _ _ _ h => h) (by rfl) (by assumption) ?hy24pc ?hn24pc
          case hy24pc => (intro w hSw; (try dsimp only at hSw); go_simp; try with_reducible rfl)
          try simp only [Act.put, List.setIfInBounds_toArray, List.set_cons_zero, List.set_cons_succ]
          refine hTake (i := 25) (v := ?v25pc) (some 63) rfl rfl (by kernel_rfl) (by kernel_rfl) (by kernel_rfl) (fun _ _ _ h => h) (by rfl) (by assumption) ?hy25pc ?hn25pc
          case hy25pc => (intro w hSw; (try dsimp only at hSw); go_simp; try with_reducible rfl)
          try simp only [Act.put, List.setIfInBounds_toArray, List.set_cons_zero, List.set_cons_succ]
          refine hTake (i := 26) (v := ?v26pc) (some 64) rfl rfl (by kernel_rfl) (by kernel_rfl) (by kernel_rfl) (fun _ _ _ h => h) (by rfl) (by assumption) ?hy26pc ?hn26pc
          case hy26pc => (intro w hSw; (try dsimp only at hSw); go_simp; try with_reducible rfl)
          try simp only [Act.put, List.setIfInBounds_toArray, List.set_cons_zero, List.set_cons_succ]
          refine hTake (i := 27) (v := ?v27pc) (some 65) rfl rfl (by kernel_rfl) (by kernel_rfl) (by kernel_rfl) (fun _ _ _ h => h) (by rfl) (by assumption) ?hy27pc ?hn27pc
          case hy27pc => (intro w hSw; (try dsimp only at hSw); go_simp; try with_reducible rfl)
          try simp only [Act.put, List.setIfInBounds_toArray, List.set_cons_zero, List.set_cons_succ]
          refine hTake (i := 28) (v := ?v28pc) (some 66) rfl rfl (by kernel_rfl) (by kernel_rfl) (by kernel_rfl) (fun _ _ _ h => h) (by rfl) (by assumption) ?hy28pc ?hn28pc
          case hy28pc => (intro w hSw; (try dsimp only at hSw); go_simp; try with_reducible rfl)
          try simp only [Act.put, List.setIfInBounds_toArray, List.set_cons_zero, List.set_cons_succ]
          refine hTake (i := 29) (v := ?v29pc) (some 10) rfl rfl (by kernel_rfl) (by kernel_rfl) (by kernel_rfl) (fun _ _ _ h => h) (by rfl) (by assumption) ?hy29pc ?hn29pc
          case hy29pc => (intro w hSw; (try dsimp only at hSw); go_simp; try with_reducible rfl)
          try simp only [Act.put, List.setIfInBounds_toArray, List.set_cons_zero, List.set_cons_succ]
          refine wpAnyH_done (by kernel_rfl) ?_ _
          have HY : Hid (stayB t ⟨x1, x2, x3, x4⟩ l[i]? = false) := hide (by unfold stayB; rw [HNB.out]; rfl)
          have HDN : Hid (docS t l = dn ++ docS t (l.drop i)) := hide (by rw [HI.out.2.2.2.2.2, HST.out, if_neg (by rw [HY.out]; simp)]; rfl)
          have e0 := HX0.out
          have e1 := HX1.out
          have e3 := HX3.out
          go_wp2
          go_roundw
          case rel => exact ⟨i, m, dn, _, by have := HIK.out; omega, by have := HIK.out; omega, by simp, hide ⟨HK2.out, HT2.out, HOW.out, HZ2.out, HI.out.2.2.2.2.1, HDN.out⟩⟩
          case measure => (have := HIK.out; simp [intOf]; omega)
        · have hyI : ¬ (y2 : Int) ≤ (t : Int) := by omega
          have HNB : Hid (nextB t ⟨x1, x2, x3, x4⟩ l[i]? = false) := hide (by rw [hye]; unfold nextB; dsimp only; rw [hq]; simpa using hyt)
          clear hN0 HPR hik hy0 hy1 hye
          go_wp2_with fail
          refine wp_region_held_drew (S := (fun W : World => W.cell? ⟨w.heap.size, 0, none⟩ = some (.slice (some ⟨b, off, none⟩) len cap) ∧ W.cell? ⟨wr.heap.size, 0, none⟩ = some (.string x1) ∧ W.cell? ⟨b, off + i * 4, none⟩ = some (.string y1) ∧ W.cell? ⟨b, off + i * 4 + 1, none⟩ = some (.int .u64 (y2 : Nat)))) (by kernel_rfl) ?hSpd (fun hHeld => ?_)
          case hSpd => exact HS.out
          refine hTake (i := 0) (v := ?v0pd) (some 38) rfl rfl (by kernel_rfl) (by kernel_rfl) (by kernel_rfl) (fun _ _ _ h => h) (by rfl) (by assumption) ?hy0pd ?hn0pd
          case hy0pd => (intro w hSw; (try dsimp only at hSw); go_simp; try with_reducible rfl)
          try simp only [Act.put, List.setIfInBounds_toArray, List.set_cons_zero, List.set_cons_succ]
          refine hTake (i := 1) (v := ?v1pd) (some 39) rfl rfl (by kernel_rfl) (by kernel_rfl) (by kernel_rfl) (fun _ _ _ h => h) (by rfl) (by assumption) ?hy1pd ?hn1pd
          case hy1pd => (intro w hSw; (try dsimp only at hSw); go_simp; try with_reducible rfl)
          try simp only [Act.put, List.setIfInBounds_toArray, List.set_cons_zero, List.set_cons_succ]
          refine hTake (i := 2) (v := ?v2pd) (some 40) rfl rfl (by kernel_rfl) (by kernel_rfl) (by kernel_rfl) (fun _ _ _ h => h) (by rfl) (by assumption) ?hy2pd ?hn2pd
          case hy2pd => (intro w hSw; (try dsimp only at hSw); go_simp; try with_reducible rfl)
          try simp only [Act.put, List.setIfInBounds_toArray, List.set_cons_zero, List.set_cons_succ]
          refine hTake (i := 3) (v := ?v3pd) (some 41) rfl rfl (by kernel_rfl) (by kernel_rfl) (by kernel_rfl) (fun _ _ _ h => h) (by rfl) (by assumption) ?hy3pd ?hn3pd
          case hy3pd => (intro w hSw; (try dsimp only at hSw); go_simp; try with_reducible rfl)
          try simp only [Act.put, List.setIfInBounds_toArray, List.set_cons_zero, List.set_cons_succ]
          refine hTake (i := 4) (v := ?v4pd) (some 42) rfl rfl (by kernel_rfl) (by kernel_rfl) (by kernel_rfl) (fun _ _ _ h => h) (by rfl) (by assumption) ?hy4pd ?hn4pd
          case hy4pd => (intro w hSw; (try dsimp only at hSw); go_simp; try with_reducible rfl)
          try simp only [Act.put, List.setIfInBounds_toArray, List.set_cons_zero, List.set_cons_succ]
          refine hTake (i := 5) (v := ?v5pd) (some 43) rfl rfl (by kernel_rfl) (by kernel_rfl) (by kernel_rfl) (fun _ _ _ h => h) (by rfl) (by assumption) ?hy5pd ?hn5pd
          case hy5pd => (intro w hSw; (try dsimp only at hSw); go_simp; try with_reducible rfl)
          try simp only [Act.put, List.setIfInBounds_toArray, List.set_cons_zero, List.set_cons_succ]
          refine hTake (i := 6) (v := ?v6pd) (some 44) rfl rfl (by kernel_rfl) (by kernel_rfl) (by kernel_rfl) (fun _ _ _ h => h) (by rfl) (by assumption) ?hy6pd ?hn6pd
          case hy6pd => (intro w hSw; (try dsimp only at hSw); go_simp; try with_reducible rfl)
          try simp only [Act.put, List.setIfInBounds_toArray, List.set_cons_zero, List.set_cons_succ]
          refine hTake (i := 7) (v := ?v7pd) (some 45) rfl rfl (by kernel_rfl) (by kernel_rfl) (by kernel_rfl) (fun _ _ _ h => h) (by rfl) (by assumption) ?hy7pd ?hn7pd
          case hy7pd => (intro w hSw; (try dsimp only at hSw); go_simp; try with_reducible rfl)
          try simp only [Act.put, List.setIfInBounds_toArray, List.set_cons_zero, List.set_cons_succ]
          refine hTake (i := 8) (v := ?v8pd) (some 46) rfl rfl (by kernel_rfl) (by kernel_rfl) (by kernel_rfl) (fun _ _ _ h => h) (by rfl) (by assumption) ?hy8pd ?hn8pd
          case hy8pd => (intro w hSw; (try dsimp only at hSw); go_simp; try with_reducible rfl)
          try simp only [Act.put, List.setIfInBounds_toArray, List.set_cons_zero, List.set_cons_succ]
          refine hTake (i := 9) (v := ?v9pd) (some 47) rfl rfl (by kernel_rfl) (by kernel_rfl) (by kernel_rfl) (fun _ _ _ h => h) (by rfl) (by assumption) ?hy9pd ?hn9pd
          case hy9pd => (intro w hSw; (try dsimp only at hSw); go_simp; try with_reducible rfl)
          try simp only [Act.put, List.setIfInBounds_toArray, List.set_cons_zero, List.set_cons_succ]
          refine hTake (i := 10) (v := ?v10pd) (some 48) rfl rfl (by kernel_rfl) (by kernel_rfl) (by kernel_rfl) (fun _ _ _ h => h) (by rfl) (by assumption) ?hy10pd ?hn10pd
          case hy10pd => (intro w hSw; (try dsimp only at hSw); go_simp; try with_reducible rfl)
          try simp only [Act.put, List.setIfInBounds_toArray, List.set_cons_zero, List.set_cons_succ]
          refine hTake (i := 11) (v := ?v11pd) (some 49) rfl rfl (by kernel_rfl) (by kernel_rfl) (by kernel_rfl) (fun _ _ _ h => h) (by rfl) (by assumption) ?hy11pd ?hn11pd
          case hy11pd => (intro w hSw; (try dsimp only at hSw); go_simp; try with_reducible rfl)
          try simp only [Act.put, List.setIfInBounds_toArray, List.set_cons_zero, List.set_cons_succ]
          refine hTake (i := 12) (v := ?v12pd) (some 50) rfl rfl (by kernel_rfl) (by kernel_rfl) (by kernel_rfl) (fun _ _ _ h => h) (by rfl) (by assumption) ?hy12pd ?hn12pd
          case hy12pd => (intro w hSw; (try dsimp only at hSw); go_simp; try with_reducible rfl)
          try simp only [Act.put, List.setIfInBounds_toArray, List.set_cons_zero, List.set_cons_succ]
          refine hTake (i := 13) (v := ?v13pd) (some 51) rfl rfl (by kernel_rfl) (by kernel_rfl) (by kernel_rfl) (fun _ _ _ h => h) (by rfl) (by assumption) ?hy13pd ?hn13pd
          case hy13pd => (intro w hSw; (try dsimp only at hSw); go_simp; try with_reducible rfl)
          try simp only [Act.put, List.setIfInBounds_toArray, List.set_cons_zero, List.set_cons_succ]
          refine hTake (i := 14) (v := ?v14pd) (some 52) rfl rfl (by kernel_rfl) (by kernel_rfl) (by kernel_rfl) (fun _ _ _ h => h) (by rfl) (by assumption) ?hy14pd ?hn14pd
          case hy14pd => (intro w hSw; (try dsimp only at hSw); go_simp; try with_reducible rfl)
          try simp only [Act.put, List.setIfInBounds_toArray, List.set_cons_zero, List.set_cons_succ]
          refine hTake (i := 15) (v := ?v15pd) (some 53) rfl rfl (by kernel_rfl) (by kernel_rfl) (by kernel_rfl) (fun _ _ _ h => h) (by rfl) (by assumption) ?hy15pd ?hn15pd
          case hy15pd => (intro w hSw; (try dsimp only at hSw); go_simp; try with_reducible rfl)
          try simp only [Act.put, List.setIfInBounds_toArray, List.set_cons_zero, List.set_cons_succ]
          refine hTake (i := 16) (v := ?v16pd) (some 54) rfl rfl (by kernel_rfl) (by kernel_rfl) (by kernel_rfl) (fun _ _ _ h => h) (by rfl) (by assumption) ?hy16pd ?hn16pd
          case hy16pd => (intro w hSw; (try dsimp only at hSw); go_simp; try with_reducible rfl)
          try simp only [Act.put, List.setIfInBounds_toArray, List.set_cons_zero, List.set_cons_succ]
          refine hTake (i := 17) (v := ?v17pd) (some 55) rfl rfl (by kernel_rfl) (by kernel_rfl) (by kernel_rfl) (fun _ _ _ h => h) (by rfl) (by assumption) ?hy17pd ?hn17pd
          case hy17pd => (intro w hSw; (try dsimp only at hSw); go_simp; try with_reducible rfl)
          try simp only [Act.put, List.setIfInBounds_toArray, List.set_cons_zero, List.set_cons_succ]
          refine hTake (i := 18) (v := ?v18pd) (some 56) rfl rfl (by kernel_rfl) (by kernel_rfl) (by kernel_rfl) (fun _ _ _ h => h) (by rfl) (by assumption) ?hy18pd ?hn18pd
          case hy18pd => (intro w hSw; (try dsimp only at hSw); go_simp; try with_reducible rfl)
          try simp only [Act.put, List.setIfInBounds_toArray, List.set_cons_zero, List.set_cons_succ]
          refine hTake (i := 19) (v := ?v19pd) (some 57) rfl rfl (by kernel_rfl) (by kernel_rfl) (by kernel_rfl) (fun _ _ _ h => h) (by rfl) (by assumption) ?hy19pd ?hn19pd
          case hy19pd => (intro w hSw; (try dsimp only at hSw); go_simp; try with_reducible rfl)
          try simp only [Act.put, List.setIfInBounds_toArray, List.set_cons_zero, List.set_cons_succ]
          refine hTake (i := 20) (v := ?v20pd) (some 58) rfl rfl (by kernel_rfl) (by kernel_rfl) (by kernel_rfl) (fun _ _ _ h => h) (by rfl) (by assumption) ?hy20pd ?hn20pd
          case hy20pd => (intro w hSw; (try dsimp only at hSw); go_simp; try with_reducible rfl)
          try simp only [Act.put, List.setIfInBounds_toArray, List.set_cons_zero, List.set_cons_succ]
          refine hTake (i := 21) (v := ?v21pd) (some 59) rfl rfl (by kernel_rfl) (by kernel_rfl) (by kernel_rfl) (fun _ _ _ h => h) (by rfl) (by assumption) ?hy21pd ?hn21pd
          case hy21pd => (intro w hSw; (try dsimp only at hSw); go_simp; try with_reducible rfl)
          try simp only [Act.put, List.setIfInBounds_toArray, List.set_cons_zero, List.set_cons_succ]
          refine hTake (i := 22) (v := ?v22pd) (some 60) rfl rfl (by kernel_rfl) (by kernel_rfl) (by kernel_rfl) (fun _ _ _ h => h) (by rfl) (by assumption) ?hy22pd ?hn22pd
          case hy22pd => (intro w hSw; (try dsimp only at hSw); go_simp; try with_reducible rfl)
          try simp only [Act.put, List.setIfInBounds_toArray, List.set_cons_zero, List.set_cons_succ]
          refine hTake (i := 23) (v := ?v23pd) (some 61) rfl rfl (by kernel_rfl) (by kernel_rfl) (by kernel_rfl) (fun _ _ _ h => h) (by rfl) (by assumption) ?hy23pd ?hn23pd
          case hy23pd => (intro w hSw; (try dsimp only at hSw); go_simp; try with_reducible rfl)
          try simp only [Act.put, List.setIfInBounds_toArray, List.set_cons_zero, List.set_cons_succ]
          refine hTake (i := 24) (v := ?v24pd) (some 62) rfl rfl (by kernel_rfl) (by kernel_rfl) (by kernel_rfl) (fun _ _ _ h => h) (by rfl) (by assumption) ?hy24pd ?hn24pd
          case hy24pd => (intro w hSw; (try dsimp only at hSw); go_simp; try with_reducible rfl)
          try simp only [Act.put, List.setIfInBounds_toArray, List.set_cons_zero, List.set_cons_succ]
          refine hTake (i := 25) (v := ?v25pd) (some 63) rfl rfl (by kernel_rfl) (by kernel_rfl) (by kernel_rfl) (fun _ _ _ h => h) (by rfl) (by assumption) ?hy25pd ?hn25pd
          case hy25pd => (intro w hSw; (try dsimp only at hSw); go_simp; try with_reducible rfl)
          try simp only [Act.put, List.setIfInBounds_toArray, List.set_cons_zero, List.set_cons_succ]
          refine hTake (i := 26) (v := ?v26pd) (some 64) rfl rfl (by kernel_rfl) (by kernel_rfl) (by kernel_rfl) (fun _ _ _ h => h) (by rfl) (by assumption) ?hy26pd ?hn26pd
          case hy26pd => (intro w hSw; (try dsimp only at hSw); go_simp; try with_reducible rfl)
          try simp only [Act.put, List.setIfInBounds_toArray, List.set_cons_zero, List.set_cons_succ]
          refine hTake (i := 27) (v := ?v27pd) (some 65) rfl rfl (by kernel_rfl) (by kernel_rfl) (by kernel_rfl) (fun _ _ _ h => h) (by rfl) (by assumption) ?hy27pd ?hn27pd
          case hy27pd => (intro w hSw; (try dsimp only at hSw); go_simp; try with_reducible rfl)
          try simp only [Act.put, List.setIfInBounds_toArray, List.set_cons_zero, List.set_cons_succ]
          refine hTake (i := 28) (v := ?v28pd) (some 66) rfl rfl (by kernel_rfl) (by kernel_rfl) (by kernel_rfl) (fun _ _ _ h => h) (by rfl) (by assumption) ?hy28pd ?hn28pd
          case hy28pd => (intro w hSw; (try dsimp only at hSw); go_simp; try with_reducible rfl)
          try simp only [Act.put, List.setIfInBounds_toArray, List.set_cons_zero, List.set_cons_succ]
          refine hTake (i := 29) (v := ?v29pd) (some 10) rfl rfl (by kernel_rfl) (by kernel_rfl) (by kernel_rfl) (fun _ _ _ h => h) (by rfl) (by assumption) ?hy29pd ?hn29pd
          case hy29pd => (intro w hSw; (try dsimp only at hSw); go_simp; try with_reducible rfl)
          try simp only [Act.put, List.setIfInBounds_toArray, List.set_cons_zero, List.set_cons_succ]
          refine wpAnyH_done (by kernel_rfl) ?_ _
          cases x4
          · have HY : Hid (stayB t ⟨x1, x2, x3, false⟩ l[i]? = true) := hide (by unfold stayB; rw [HNB.out]; rfl)
            have HDN : Hid (docS t l = (dn ++ [⟨x1, x2, x3, false⟩]) ++ docS t (l.drop i)) := hide (by rw [HI.out.2.2.2.2.2, HST.out, if_pos HY.out, List.append_assoc])
            have HLL : Hid ((dn ++ [(⟨x1, x2, x3, false⟩ : Vr)]).length = m + 1) := hide (by rw [List.length_append, HI.out.2.2.2.2.1]; rfl)
            have HXB : Hid (IsV (wr.alloc (.cells #[.string x1, .int .u64 (x2 : Nat), .string x3, .bool false] 51)).drew (some ⟨wr.heap.size, 0, none⟩) 1 1 [⟨x1, x2, x3, false⟩]) := hide (isV_one ⟨x1, x2, x3, false⟩ (heap_alloc_new wr (.cells #[.string x1, .int .u64 (x2 : Nat), .string x3, .bool false] 51)))
            have HK3 : Hid (Below w1.heap.size w1 (((wr.alloc (.cells #[.string x1, .int .u64 (x2 : Nat), .string x3, .bool false] 51)).drew).alloc (.cells #[.string x1, .int .u64 (x2 : Nat), .string x3, .bool false] 51))) := hide (HK2.out.trans ((Below.refl _ _).alloc HK2.out.size _))
            have HT3 : Hid (Two (((wr.alloc (.cells #[.string x1, .int .u64 (x2 : Nat), .string x3, .bool false] 51)).drew).alloc (.cells #[.string x1, .int .u64 (x2 : Nat), .string x3, .bool false] 51)) w1.heap.size (.slice av m cv) (.int .u64 (t : Nat))) := hide ((heap_alloc_old _ _ _ (by have := HI.out.2.2.2.1; simp [World.drew]; omega)).trans HT2.out)
            have HO3 : Hid ((((wr.alloc (.cells #[.string x1, .int .u64 (x2 : Nat), .string x3, .bool false] 51)).drew).alloc (.cells #[.string x1, .int .u64 (x2 : Nat), .string x3, .bool false] 51)).ownsRow (w1.heap.size + 1) 51 4 (.slice av m cv) m (dn.flatMap vrc)) := hide (HOW.out.alloc _)
            have HN3 : Hid (IsV (((wr.alloc (.cells #[.string x1, .int .u64 (x2 : Nat), .string x3, .bool false] 51)).drew).alloc (.cells #[.string x1, .int .u64 (x2 : Nat), .string x3, .bool false] 51)) (some ⟨((wr.alloc (.cells #[.string x1, .int .u64 (x2 : Nat), .string x3, .bool false] 51)).drew).heap.size, 0, none⟩) 1 1 [⟨x1, x2, x3, false⟩]) := hide (isV_one ⟨x1, x2, x3, false⟩ (heap_alloc_new ((wr.alloc (.cells #[.string x1, .int .u64 (x2 : Nat), .string x3, .bool false] 51)).drew) (.cells #[.string x1, .int .u64 (x2 : Nat), .string x3, .bool false] 51)))
            have HBG : Hid ((m + 1) * 48 ≤ 140737488355328) := hide (by omega)
            have HS3 : Hid (w1.heap.size + 1 ≤ (((wr.alloc (.cells #[.string x1, .int .u64 (x2 : Nat), .string x3, .bool false] 51)).drew).alloc (.cells #[.string x1, .int .u64 (x2 : Nat), .string x3, .bool false] 51)).heap.size) := hide (by have := HI.out.2.2.2.1; simp [World.drew]; omega)
            have q0 := (cells2_of_blk HT2.out).1
            have e0 := HX0.out
            have e1 := HX1.out
            have e2 := HX2.out
            have e3 := HX3.out
            have hzz : ((wr.alloc (.cells #[.string x1, .int .u64 (x2 : Nat), .string x3, .bool false] 51)).drew).heap.size = wr.heap.size + 1 := by simp [World.drew]
            clear HXB
            rw [hzz] at HN3
            go_wp2_with (at_builtin; refine wpList_vers rfl _ _ rfl (w1.heap.size + 1) (.slice av m cv) m dn rfl HO3.out _ 1 1 _ rfl HN3.out HBG.out HS3.out ?_)
            intro v9 w9 HN
            obtain ⟨a9, c9, rfl⟩ := own_form HN.out.1
            have HT9 : Hid (Two w9 w1.heap.size (.slice av m cv) (.int .u64 (t : Nat))) := hide ((HN.out.2.block _ (Nat.lt_succ_self _)).trans HT3.out)
            have n0 := (cells2_of_blk HT9.out).1
            have f9 := frz HT9.out 0
            have HF9 : Hid (Below w1.heap.size w1 (w9.setCell ⟨w1.heap.size, 0, none⟩ (.slice a9 (m + 1) c9)) ∧ Two (w9.setCell ⟨w1.heap.size, 0, none⟩ (.slice a9 (m + 1) c9)) w1.heap.size (.slice a9 (m + 1) c9) (.int .u64 (t : Nat)) ∧ (w9.setCell ⟨w1.heap.size, 0, none⟩ (.slice a9 (m + 1) c9)).ownsRow (w1.heap.size + 1) 51 4 (.slice a9 (m + 1) c9) (m + 1) ((dn ++ [(⟨x1, x2, x3, false⟩ : Vr)]).flatMap vrc) ∧ w1.heap.size + 1 ≤ (w9.setCell ⟨w1.heap.size, 0, none⟩ (.slice a9 (m + 1) c9)).heap.size) := hide ⟨(HK3.out.trans (HN.out.2.mono (Nat.le_succ _))).setCell (p := ⟨w1.heap.size, 0, none⟩) (Nat.le_refl _) _, by have := blk_set2 (j := 0) HT9.out (.slice a9 (m + 1) c9); simpa using this, ownsRow_setCell_below (by simpa using HN.out.1) (Nat.lt_succ_self _) _, by have := HN.out.2.size; have := HS3.out; simp at *; omega⟩
            clear HN HK3 HT3 HO3 HN3 q0 e0 e1 e2 e3 hzz
            go_wp2
            go_roundw
            case rel => exact ⟨i, m + 1, _, _, by have := HIK.out; omega, by have := HIK.out; omega, by simp, hide ⟨HF9.out.1, HF9.out.2.1, HF9.out.2.2.1, HF9.out.2.2.2, HLL.out, HDN.out⟩⟩
            case measure => (have := HIK.out; simp [intOf]; omega)
          · by_cases htx : t < x2
            · have hti : (t : Int) < (x2 : Int) := by omega
              have HY : Hid (stayB t ⟨x1, x2, x3, true⟩ l[i]? = true) := hide (by unfold stayB; rw [HNB.out]; simp [htx])
              have HDN : Hid (docS t l = (dn ++ [⟨x1, x2, x3, true⟩]) ++ docS t (l.drop i)) := hide (by rw [HI.out.2.2.2.2.2, HST.out, if_pos HY.out, List.append_assoc])
              have HLL : Hid ((dn ++ [(⟨x1, x2, x3, true⟩ : Vr)]).length = m + 1) := hide (by rw [List.length_append, HI.out.2.2.2.2.1]; rfl)
              have HXB : Hid (IsV (wr.alloc (.cells #[.string x1, .int .u64 (x2 : Nat), .string x3, .bool true] 51)).drew (some ⟨wr.heap.size, 0, none⟩) 1 1 [⟨x1, x2, x3, true⟩]) := hide (isV_one ⟨x1, x2, x3, true⟩ (heap_alloc_new wr (.cells #[.string x1, .int .u64 (x2 : Nat), .string x3, .bool true] 51)))
              have HK3 : Hid (Below w1.heap.size w1 (((wr.alloc (.cells #[.string x1, .int .u64 (x2 : Nat), .string x3, .bool true] 51)).drew).alloc (.cells #[.string x1, .int .u64 (x2 : Nat), .string x3, .bool true] 51))) := hide (HK2.out.trans ((Below.refl _ _).alloc HK2.out.size _))
              have HT3 : Hid (Two (((wr.alloc (.cells #[.string x1, .int .u64 (x2 : Nat), .string x3, .bool true] 51)).drew).alloc (.cells #[.string x1, .int .u64 (x2 : Nat), .string x3, .bool true] 51)) w1.heap.size (.slice av m cv) (.int .u64 (t : Nat))) := hide ((heap_alloc_old _ _ _ (by have := HI.out.2.2.2.1; simp [World.drew]; omega)).trans HT2.out)
              have HO3 : Hid ((((wr.alloc (.cells #[.string x1, .int .u64 (x2 : Nat), .string x3, .bool true] 51)).drew).alloc (.cells #[.string x1, .int .u64 (x2 : Nat), .string x3, .bool true] 51)).ownsRow (w1.heap.size + 1) 51 4 (.slice av m cv) m (dn.flatMap vrc)) := hide (HOW.out.alloc _)
              have HN3 : Hid (IsV (((wr.alloc (.cells #[.string x1, .int .u64 (x2 : Nat), .string x3, .bool true] 51)).drew).alloc (.cells #[.string x1, .int .u64 (x2 : Nat), .string x3, .bool true] 51)) (some ⟨((wr.alloc (.cells #[.string x1, .int .u64 (x2 : Nat), .string x3, .bool true] 51)).drew).heap.size, 0, none⟩) 1 1 [⟨x1, x2, x3, true⟩]) := hide (isV_one ⟨x1, x2, x3, true⟩ (heap_alloc_new ((wr.alloc (.cells #[.string x1, .int .u64 (x2 : Nat), .string x3, .bool true] 51)).drew) (.cells #[.string x1, .int .u64 (x2 : Nat), .string x3, .bool true] 51)))
              have HBG : Hid ((m + 1) * 48 ≤ 140737488355328) := hide (by omega)
              have HS3 : Hid (w1.heap.size + 1 ≤ (((wr.alloc (.cells #[.string x1, .int .u64 (x2 : Nat), .string x3, .bool true] 51)).drew).alloc (.cells #[.string x1, .int .u64 (x2 : Nat), .string x3, .bool true] 51)).heap.size) := hide (by have := HI.out.2.2.2.1; simp [World.drew]; omega)
              have q0 := (cells2_of_blk HT2.out).1
              have e0 := HX0.out
              have e1 := HX1.out
              have e2 := HX2.out
              have e3 := HX3.out
              have hzz : ((wr.alloc (.cells #[.string x1, .int .u64 (x2 : Nat), .string x3, .bool true] 51)).drew).heap.size = wr.heap.size + 1 := by simp [World.drew]
              clear HXB
              rw [hzz] at HN3
              go_wp2_with (at_builtin; refine wpList_vers rfl _ _ rfl (w1.heap.size + 1) (.slice av m cv) m dn rfl HO3.out _ 1 1 _ rfl HN3.out HBG.out HS3.out ?_)
              intro v9 w9 HN
              obtain ⟨a9, c9, rfl⟩ := own_form HN.out.1
              have HT9 : Hid (Two w9 w1.heap.size (.slice av m cv) (.int .u64 (t : Nat))) := hide ((HN.out.2.block _ (Nat.lt_succ_self _)).trans HT3.out)
              have n0 := (cells2_of_blk HT9.out).1
              have f9 := frz HT9.out 0
              have HF9 : Hid (Below w1.heap.size w1 (w9.setCell ⟨w1.heap.size, 0, none⟩ (.slice a9 (m + 1) c9)) ∧ Two (w9.setCell ⟨w1.heap.size, 0, none⟩ (.slice a9 (m + 1) c9)) w1.heap.size (.slice a9 (m + 1) c9) (.int .u64 (t : Nat)) ∧ (w9.setCell ⟨w1.heap.size, 0, none⟩ (.slice a9 (m + 1) c9)).ownsRow (w1.heap.size + 1) 51 4 (.slice a9 (m + 1) c9) (m + 1) ((dn ++ [(⟨x1, x2, x3, true⟩ : Vr)]).flatMap vrc) ∧ w1.heap.size + 1 ≤ (w9.setCell ⟨w1.heap.size, 0, none⟩ (.slice a9 (m + 1) c9)).heap.size) := hide ⟨(HK3.out.trans (HN.out.2.mono (Nat.le_succ _))).setCell (p := ⟨w1.heap.size, 0, none⟩) (Nat.le_refl _) _, by have := blk_set2 (j := 0) HT9.out (.slice a9 (m + 1) c9); simpa using this, ownsRow_setCell_below (by simpa using HN.out.1) (Nat.lt_succ_self _) _, by have := HN.out.2.size; have := HS3.out; simp at *; omega⟩
              clear HN HK3 HT3 HO3 HN3 q0 e0 e1 e2 e3 hzz
              go_wp2
              go_roundw
              case rel => exact ⟨i, m + 1, _, _, by have := HIK.out; omega, by have := HIK.out; omega, by simp, hide ⟨HF9.out.1, HF9.out.2.1, HF9.out.2.2.1, HF9.out.2.2.2, HLL.out, HDN.out⟩⟩
              case measure => (have := HIK.out; simp [intOf]; omega)
            · have hti : ¬ (t : Int) < (x2 : Int) := by omega
              have HY : Hid (stayB t ⟨x1, x2, x3, true⟩ l[i]? = false) := hide (by unfold stayB; rw [HNB.out]; simp [htx])
              have HDN : Hid (docS t l = dn ++ docS t (l.drop i)) := hide (by rw [HI.out.2.2.2.2.2, HST.out, if_neg (by rw [HY.out]; simp)]; rfl)
              have e0 := HX0.out
              have e1 := HX1.out
              have e3 := HX3.out
              go_wp2
              go_roundw
              case rel => exact ⟨i, m, dn, _, by have := HIK.out; omega, by have := HIK.out; omega, by simp, hide ⟨HK2.out, HT2.out, HOW.out, HZ2.out, HI.out.2.2.2.2.1, HDN.out⟩⟩
              case measure => (have := HIK.out; simp [intOf]; omega)
theorem rsweep_any (a : Option Addr) (len cap low t : Nat) (l : List Vr) (w : World) (hL : IsV w a len cap l) : Calls Try.prog 25 #[.agg #[.slice a len cap, .int .u64 (low : Nat)], .int .u64 (t : Nat)] w fun e w' =>
    ∃ a' c', e = .returned (.tuple #[.agg #[.slice a' (sweepR low l t).1.length c', .int .u64 ((sweepR low l t).2.1 : Nat)], .int .i64 (sweepR low l t).2.2]) ∧ IsV w' a' (sweepR low l t).1.length c' (sweepR low l t).1 ∧ Below w.heap.size w w' := by
  by_cases hE : sweepE low l t = 0
  · obtain ⟨h1, h2, h3⟩ := sweepE_iff.1 hE
    rw [sweepR_yes hE, ← docS_filter t l (good_srt h1)]
    exact rsweep_yes a len cap low t l w hL h1 h2 h3
  · unfold sweepR
    simp only [if_neg hE]
    refine (rsweep_no a len cap low t l w hL hE).mono ?_
    rintro e w' ⟨rfl, hb⟩
    exact ⟨none, 0, rfl, ⟨rfl, Nat.le_refl _, Nat.zero_le _, fun i hi => absurd hi (Nat.not_lt_zero _)⟩, hb⟩
end Go.Proofs.Ytpgdmkjfgmiacaa
