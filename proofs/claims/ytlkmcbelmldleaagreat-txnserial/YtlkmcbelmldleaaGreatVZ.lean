/- mvcc.Put -/
import Derived.Test.YtlkmcbelmldleaaGreatVY
namespace Go.Proofs.YtlkmcbelmldleaaGreat
open Go.RowKit Go.Shelf Go.Lib Go.Sort
set_option maxRecDepth 40000
set_option maxRecDepth 40000 in
set_option maxHeartbeats 2000000 in
theorem put_no (a : Option Addr) (len cap low : Nat) (l : List Vr) (aw : Option Addr) (lw cw : Nat) (ws : List Wt) (t : Nat) (w : World) (hL : IsV w a len cap l) (hW : IsW w aw lw cw ws) (hE : ¬ refE low l ws t = 0) :
    Calls Tryz.prog 39 #[.agg #[.slice a len cap, .int .u64 (low : Nat)], .slice aw lw cw, .int .u64 (t : Nat)] w fun e w' =>
    e = .returned (.tuple #[.agg #[.slice none 0 0, .int .u64 0], .int .i64 (refE low l ws t)]) ∧ Below w.heap.size w w' := by
  have HB5 : Hid (Below w.heap.size w ((w.alloc (.cells #[.slice a len cap, .int .u64 (low : Nat)] 31)).alloc (.cells #[.slice none 0 0, .int .u64 0] 31))) := hide (((Below.refl _ w).alloc (Nat.le_refl _) _).alloc (by simp) _)
  have bR := hide (heap_alloc_new (w.alloc (.cells #[.slice a len cap, .int .u64 (low : Nat)] 31)) (.cells #[.slice none 0 0, .int .u64 0] 31))
  simp only [World.size_alloc] at bR
  have HRF := hide (refused_any a len cap low l aw lw cw ws t _ (hL.below HB5.out) (hW.below HB5.out))
  clear hL hW
  generalize refE low l ws t = R at *
  go_enter Tryz.func39, Tryz.ntmps39
  go_wp2_with fail
  generalize ((w.alloc (.cells #[.slice a len cap, .int .u64 (low : Nat)] 31)).alloc (.cells #[.slice none 0 0, .int .u64 0] 31)) = V at *
  refine HRF.out.mono ?_
  rintro e w1 ⟨rfl, hb1⟩
  have HB1 := hide (HB5.out.trans (hb1.mono HB5.out.size))
  obtain ⟨r0, r1⟩ := cells2_of_blk ((hb1.block _ (heap_lt bR.out)).trans bR.out)
  have HR : Hid (Two w1 (w.heap.size + 1) (.slice none 0 0) (.int .u64 0)) := hide ((hb1.block _ (heap_lt bR.out)).trans bR.out)
  have f0 := frz HR.out 0
  have f1 := frz HR.out 1
  clear hb1 bR HRF HB5
  have HFIN : Hid (∀ (fn : Func) (tmps : Array Value) (e : Int), fn.results = #[.cell 6 31, .tmp 7] → tmps.getD 6 undef = .pointer (some ⟨w.heap.size + 1, 0, none⟩) → tmps.getD 7 undef = .int .i64 e → (results fn tmps).run Tryz.prog ((w1.setCell ⟨w.heap.size + 1, 0, none⟩ (.slice none 0 0)).setCell ⟨w.heap.size + 1, 1, none⟩ (.int .u64 0)) = .ok (.tuple #[.agg #[.slice none 0 0, .int .u64 0], .int .i64 e]) ((w1.setCell ⟨w.heap.size + 1, 0, none⟩ (.slice none 0 0)).setCell ⟨w.heap.size + 1, 1, none⟩ (.int .u64 0))) := hide (fun fn tmps e h1 h2 h3 => by
    rw [res25 h1 tmps _ _ _ _ (two_set HR.out _ _) h2, h3])
  have HBF : Hid (Below w.heap.size w ((w1.setCell ⟨w.heap.size + 1, 0, none⟩ (.slice none 0 0)).setCell ⟨w.heap.size + 1, 1, none⟩ (.int .u64 0))) := hide ((HB1.out.setCell (p := ⟨w.heap.size + 1, 0, none⟩) (by show _ ≤ w.heap.size + 1; omega) _).setCell (p := ⟨w.heap.size + 1, 1, none⟩) (by show _ ≤ w.heap.size + 1; omega) _)
  go_wp2
  refine bodyPost_ret (HFIN.out Tryz.f39 _ R rfl rfl rfl) rfl ?_
  exact ⟨rfl, HBF.out⟩
theorem take_put (t : Nat) (l : List Vr) (ws : List Wt) (k : Nat) (h : k < ws.length) : l ++ (ws.take (k + 1)).map (vOf t) = (l ++ (ws.take k).map (vOf t)) ++ [vOf t (ws.getD k Wt0)] := by
  rw [List.append_assoc]
  congr 1
  rw [List.take_add_one, List.getElem?_eq_getElem h, List.getD_eq_getElem?_getD, List.getElem?_eq_getElem h, List.map_append]
  rfl
/-- what Put makes of versions and writes -/
def Puts (t : Nat) (l : List Vr) (ws : List Wt) (l' : List Vr) : Prop := l'.Perm (l ++ ws.map (vOf t)) ∧ ∀ i j, i < j → j < l'.length → behindB (l'.getD j Vr0) (l'.getD i Vr0) = false
set_option maxRecDepth 40000 in
set_option maxHeartbeats 4000000 in
theorem put_yes (a : Option Addr) (len cap low : Nat) (l : List Vr) (aw : Option Addr) (lw cw : Nat) (ws : List Wt) (t : Nat) (w : World) (hL : IsV w a len cap l) (hW : IsW w aw lw cw ws) (hE : refE low l ws t = 0) (hn1 : len ≤ 4096) (hn2 : lw ≤ 4096) :
    Calls Tryz.prog 39 #[.agg #[.slice a len cap, .int .u64 (low : Nat)], .slice aw lw cw, .int .u64 (t : Nat)] w fun e w' =>
    ∃ a' c' l', e = .returned (.tuple #[.agg #[.slice a' (len + lw) c', .int .u64 (low : Nat)], .int .i64 0]) ∧ IsV w' a' (len + lw) c' l' ∧ Puts t l ws l' ∧ Below w.heap.size w w' ∧ ∀ b off, a' = some ⟨b, off, none⟩ → w.heap.size ≤ b := by
  have HB5 : Hid (Below w.heap.size w ((w.alloc (.cells #[.slice a len cap, .int .u64 (low : Nat)] 31)).alloc (.cells #[.slice none 0 0, .int .u64 0] 31))) := hide (((Below.refl _ w).alloc (Nat.le_refl _) _).alloc (by simp) _)
  have bR := hide (heap_alloc_new (w.alloc (.cells #[.slice a len cap, .int .u64 (low : Nat)] 31)) (.cells #[.slice none 0 0, .int .u64 0] 31))
  have bV : Hid (Two ((w.alloc (.cells #[.slice a len cap, .int .u64 (low : Nat)] 31)).alloc (.cells #[.slice none 0 0, .int .u64 0] 31)) w.heap.size (.slice a len cap) (.int .u64 (low : Nat))) := hide ((heap_alloc_old _ _ _ (by simp)).trans (heap_alloc_new _ _))
  have HVS : Hid (((w.alloc (.cells #[.slice a len cap, .int .u64 (low : Nat)] 31)).alloc (.cells #[.slice none 0 0, .int .u64 0] 31)).heap.size = w.heap.size + 2) := hide (by simp)
  simp only [World.size_alloc] at bR
  have HL := hide (hL.below HB5.out)
  have HW := hide (hW.below HB5.out)
  have HRF := hide (refused_any a len cap low l aw lw cw ws t _ HL.out HW.out)
  have hcm : cap ≤ 9223372036854775807 := hL.2.2.1
  have hcap := hL.2.1
  have hcmw : cw ≤ 9223372036854775807 := hW.2.2.1
  have hcapw := hW.2.1
  have HLN := hide hL.1
  have HWN := hide hW.1
  rw [hE] at HRF
  clear hL hW hE
  go_enter Tryz.func39, Tryz.ntmps39
  go_wp2_with fail
  generalize ((w.alloc (.cells #[.slice a len cap, .int .u64 (low : Nat)] 31)).alloc (.cells #[.slice none 0 0, .int .u64 0] 31)) = V at *
  refine HRF.out.mono ?_
  rintro e w1 ⟨rfl, hb1⟩
  have HB1 := hide hb1
  have HV1 := hide ((hb1.block _ (heap_lt bV.out)).trans bV.out)
  obtain ⟨v0, v1⟩ := cells2_of_blk HV1.out
  have HCL := hide (clone_any a len cap l w1 (HL.out.below hb1) hn1)
  clear hb1 HRF
  go_wp2_with fail
  refine HCL.out.mono ?_
  rintro e w2 ⟨v2, rfl, hrow, hb2⟩
  have HB2 : Hid (Below (w.heap.size + 2) V w2) := hide (by rw [← HVS.out]; exact HB1.out.trans (hb2.mono HB1.out.size))
  have HROW : Hid (w2.ownsRow (w.heap.size + 2) 66 4 v2 len (l.flatMap vrc)) := hide (row_mono hrow (by rw [← HVS.out]; exact HB1.out.size))
  clear hrow hb2 HCL v0 v1 HV1 HB1
  go_wp2
  go_loopw [26, 9] (fun v26 v9 wr => ∃ k : Nat, k ≤ lw ∧ v26 = .int .i64 (k : Nat) ∧ Hid (Below (w.heap.size + 2) V wr ∧ wr.ownsRow (w.heap.size + 2) 66 4 v9 (len + k) ((l ++ (ws.take k).map (vOf t)).flatMap vrc))) (fun v26 _ _ => lw - (intOf v26).toNat)
  case atStart => exact ⟨0, Nat.zero_le _, rfl, hide ⟨HB2.out, by simpa using HROW.out⟩⟩
  case round =>
    obtain ⟨k, hk, rfl, HI⟩ := hrel
    by_cases hlt : k < lw
    · have hWr := HW.out.below (by rw [HVS.out]; exact HI.out.1)
      obtain ⟨bw, ow, rfl, hbw, c0, c1, c2⟩ := hWr.2.2.2 k hlt
      have HTK := hide (take_put t l ws k (by rw [HWN.out]; exact hlt))
      generalize ws.getD k Wt0 = x at *
      obtain ⟨x1, x2, x3⟩ := x
      dsimp only at c0 c1 c2
      obtain ⟨av, cv, rfl⟩ := own_form HI.out.2
      have hw1 : IntKind.i64.wrap ((k : Int) + 1) = (k : Int) + 1 := wr64' (by omega) (by omega)
      have hi2 : (k : Int) < (lw : Int) := by omega
      have hi4 : (0 : Int) ≤ (k : Int) := by omega
      have HSZ : Hid (w.heap.size + 2 ≤ wr.heap.size) := hide (by have := HI.out.1.size; rw [HVS.out] at this; exact this)
      have HBG : Hid ((len + k + 1) * 48 ≤ 140737488355328) := hide (by omega)
      generalize l ++ (ws.take k).map (vOf t) = G at *
      clear hWr hbw
      have key : ∀ val : ByteArray, Hid (∀ gone : Bool, (((wr.alloc (.cells #[.string x1, .string x2, .bool gone] 64)).alloc (.cells #[.string x1, .int .u64 (t : Nat), .string val, .bool gone] 66)).alloc (.cells #[.string x1, .int .u64 (t : Nat), .string val, .bool gone] 66)).ownsRow (w.heap.size + 2) 66 4 (.slice av (len + k) cv) (len + k) (G.flatMap vrc) ∧ IsV (((wr.alloc (.cells #[.string x1, .string x2, .bool gone] 64)).alloc (.cells #[.string x1, .int .u64 (t : Nat), .string val, .bool gone] 66)).alloc (.cells #[.string x1, .int .u64 (t : Nat), .string val, .bool gone] 66)) (some ⟨wr.heap.size + 1 + 1, 0, none⟩) 1 1 [⟨x1, t, val, gone⟩] ∧ w.heap.size + 2 ≤ (((wr.alloc (.cells #[.string x1, .string x2, .bool gone] 64)).alloc (.cells #[.string x1, .int .u64 (t : Nat), .string val, .bool gone] 66)).alloc (.cells #[.string x1, .int .u64 (t : Nat), .string val, .bool gone] 66)).heap.size ∧ Below (w.heap.size + 2) V (((wr.alloc (.cells #[.string x1, .string x2, .bool gone] 64)).alloc (.cells #[.string x1, .int .u64 (t : Nat), .string val, .bool gone] 66)).alloc (.cells #[.string x1, .int .u64 (t : Nat), .string val, .bool gone] 66))) := fun val => hide (fun gone => by
        have hs := HSZ.out
        refine ⟨((HI.out.2.alloc _).alloc _).alloc _, ?_, by simp; omega, HI.out.1.trans ((((Below.refl (w.heap.size + 2) wr).alloc hs _).alloc (by simp; omega) _).alloc (by simp; omega) _)⟩
        have := isV_one ⟨x1, t, val, gone⟩ (heap_alloc_new ((wr.alloc (.cells #[.string x1, .string x2, .bool gone] 64)).alloc (.cells #[.string x1, .int .u64 (t : Nat), .string val, .bool gone] 66)) (.cells #[.string x1, .int .u64 (t : Nat), .string val, .bool gone] 66))
        simp only [World.size_alloc] at this
        exact this)
      cases x3
      · have KK := key x2
        clear key
        go_wp2_with (at_builtin; refine wpList_vers rfl _ _ rfl (w.heap.size + 2) (.slice av (len + k) cv) (len + k) G rfl (KK.out false).1 _ 1 1 _ rfl (KK.out false).2.1 HBG.out (KK.out false).2.2.1 ?_)
        intro v9 w9 HN
        have HN9 : Hid (Below (w.heap.size + 2) V w9 ∧ w9.ownsRow (w.heap.size + 2) 66 4 v9 (len + (k + 1)) ((l ++ (ws.take (k + 1)).map (vOf t)).flatMap vrc)) := hide ⟨(KK.out false).2.2.2.trans HN.out.2, by rw [HTK.out]; have := HN.out.1; simp [vOf] at this ⊢; exact this⟩
        obtain ⟨a9, c9, rfl⟩ := own_form HN9.out.2
        clear HN KK
        go_wp2
        go_roundw
        case rel => exact ⟨k + 1, by omega, by simp, HN9⟩
        case measure => simp [intOf]; omega
      · have KK := key ⟨#[]⟩
        clear key
        go_wp2_with (at_builtin; refine wpList_vers rfl _ _ rfl (w.heap.size + 2) (.slice av (len + k) cv) (len + k) G rfl (KK.out true).1 _ 1 1 _ rfl (KK.out true).2.1 HBG.out (KK.out true).2.2.1 ?_)
        intro v9 w9 HN
        have HN9 : Hid (Below (w.heap.size + 2) V w9 ∧ w9.ownsRow (w.heap.size + 2) 66 4 v9 (len + (k + 1)) ((l ++ (ws.take (k + 1)).map (vOf t)).flatMap vrc)) := hide ⟨(KK.out true).2.2.2.trans HN.out.2, by rw [HTK.out]; have := HN.out.1; simp [vOf] at this ⊢; exact this⟩
        obtain ⟨a9, c9, rfl⟩ := own_form HN9.out.2
        clear HN KK
        go_wp2
        go_roundw
        case rel => exact ⟨k + 1, by omega, by simp, HN9⟩
        case measure => simp [intOf]; omega
    · obtain rfl : k = lw := by omega
      have hi2 : ¬ (k : Int) < (k : Int) := by omega
      have HTL : Hid ((l ++ (ws.take k).map (vOf t)) = l ++ ws.map (vOf t)) := hide (by rw [← HWN.out, List.take_length])
      rw [HTL.out] at HI
      clear HTL
      have HGL : Hid ((l ++ ws.map (vOf t)).length = len + k) := hide (by rw [List.length_append, List.length_map, HLN.out, HWN.out])
      rcases HI.out.2.2 with ⟨rfl, h0⟩ | ⟨g, cp, cur, rfl, hg, _⟩
      · have HX : Hid (Below (w.heap.size + 2) V wr ∧ wr.ownsRow (w.heap.size + 2) 66 4 (.slice none 0 0) (len + k) (([] : List Vr).flatMap vrc) ∧ Puts t l ws []) := hide ⟨HI.out.1, by rw [h0]; exact World.ownsRow_nil _ _ _ _, by
          have : l ++ ws.map (vOf t) = [] := List.eq_nil_of_length_eq_zero (by rw [HGL.out, h0])
          refine ⟨by rw [this], fun i j _ h => absurd h (Nat.not_lt_zero _)⟩⟩
        rw [h0] at HX
        have HZ := hide h0
        go_wp2_with fail
        refine (sortV_none none 0 _ wr).mono ?_
        rintro e w5 ⟨rfl, rfl⟩
        obtain ⟨v0, v1⟩ := cells2_of_blk ((HX.out.1.block _ (by omega)).trans bV.out)
        have HR : Hid (Two w5 (w.heap.size + 1) (.slice none 0 0) (.int .u64 0)) := hide ((HX.out.1.block _ (by omega)).trans bR.out)
        obtain ⟨r0, r1⟩ := cells2_of_blk HR.out
        have f0 := frz HR.out 0
        have f1 := frz HR.out 1
        have HFIN : Hid (∀ (fn : Func) (tmps : Array Value), fn.results = #[.cell 6 31, .tmp 7] → tmps.getD 6 undef = .pointer (some ⟨w.heap.size + 1, 0, none⟩) → tmps.getD 7 undef = .int .i64 0 → (results fn tmps).run Tryz.prog ((w5.setCell ⟨w.heap.size + 1, 0, none⟩ (.slice none 0 0)).setCell ⟨w.heap.size + 1, 1, none⟩ (.int .u64 (low : Nat))) = .ok (.tuple #[.agg #[.slice none 0 0, .int .u64 (low : Nat)], .int .i64 0]) ((w5.setCell ⟨w.heap.size + 1, 0, none⟩ (.slice none 0 0)).setCell ⟨w.heap.size + 1, 1, none⟩ (.int .u64 (low : Nat)))) := hide (fun fn tmps h1 h2 h3 => by
          rw [res25 h1 tmps _ _ _ _ (two_set HR.out _ _) h2, h3])
        have HBF : Hid (Below w.heap.size w ((w5.setCell ⟨w.heap.size + 1, 0, none⟩ (.slice none 0 0)).setCell ⟨w.heap.size + 1, 1, none⟩ (.int .u64 (low : Nat)))) := hide (((HB5.out.trans (HX.out.1.mono (by omega))).setCell (p := ⟨w.heap.size + 1, 0, none⟩) (by show _ ≤ w.heap.size + 1; omega) _).setCell (p := ⟨w.heap.size + 1, 1, none⟩) (by show _ ≤ w.heap.size + 1; omega) _)
        have HOF : Hid (((w5.setCell ⟨w.heap.size + 1, 0, none⟩ (.slice none 0 0)).setCell ⟨w.heap.size + 1, 1, none⟩ (.int .u64 (low : Nat))).ownsRow (w.heap.size + 2) 66 4 (.slice none 0 0) 0 (([] : List Vr).flatMap vrc)) := hide (ownsRow_setCell_below (ownsRow_setCell_below HX.out.2.1 (by show w.heap.size + 1 < w.heap.size + 2; omega) _) (by show w.heap.size + 1 < w.heap.size + 2; omega) _)
        go_wp2
        refine bodyPost_ret (HFIN.out Tryz.f39 _ rfl rfl rfl) rfl ?_
        obtain ⟨a', c', he, hI, _⟩ := own_isV (rfl) HOF.out
        cases he
        exact ⟨none, 0, [], by rw [HZ.out], by rw [HZ.out]; exact hI, HX.out.2.2, HBF.out, by intro b off h; cases h⟩
      · have HSO := hide (sortV_any (w.heap.size + 2) g cp (len + k) (l ++ ws.map (vOf t)) wr HGL.out (by omega) HI.out.2)
        have HG := hide hg
        go_wp2_with fail
        refine HSO.out.mono ?_
        rintro e w5 ⟨rfl, L9, q1, q2, q3, q4⟩
        have HX : Hid (Below (w.heap.size + 2) V w5 ∧ w5.ownsRow (w.heap.size + 2) 66 4 (.slice (some ⟨g, 0, none⟩) (len + k) cp) (len + k) (L9.flatMap vrc) ∧ Puts t l ws L9) := hide ⟨HI.out.1.trans ((Below.refl _ wr).grown q4 (by have := HI.out.1.size; rw [HVS.out] at this; exact this) (fun j e => by cases e; exact HG.out)), q3, q1, fun i j h1 h2 => q2 i j h1 (by rw [q1.length_eq, HGL.out] at h2; exact h2)⟩
        clear q1 q2 q3 q4 HSO
        obtain ⟨v0, v1⟩ := cells2_of_blk ((HX.out.1.block _ (by omega)).trans bV.out)
        have HR : Hid (Two w5 (w.heap.size + 1) (.slice none 0 0) (.int .u64 0)) := hide ((HX.out.1.block _ (by omega)).trans bR.out)
        obtain ⟨r0, r1⟩ := cells2_of_blk HR.out
        have f0 := frz HR.out 0
        have f1 := frz HR.out 1
        have HFIN : Hid (∀ (fn : Func) (tmps : Array Value), fn.results = #[.cell 6 31, .tmp 7] → tmps.getD 6 undef = .pointer (some ⟨w.heap.size + 1, 0, none⟩) → tmps.getD 7 undef = .int .i64 0 → (results fn tmps).run Tryz.prog ((w5.setCell ⟨w.heap.size + 1, 0, none⟩ (.slice (some ⟨g, 0, none⟩) (len + k) cp)).setCell ⟨w.heap.size + 1, 1, none⟩ (.int .u64 (low : Nat))) = .ok (.tuple #[.agg #[.slice (some ⟨g, 0, none⟩) (len + k) cp, .int .u64 (low : Nat)], .int .i64 0]) ((w5.setCell ⟨w.heap.size + 1, 0, none⟩ (.slice (some ⟨g, 0, none⟩) (len + k) cp)).setCell ⟨w.heap.size + 1, 1, none⟩ (.int .u64 (low : Nat)))) := hide (fun fn tmps h1 h2 h3 => by
          rw [res25 h1 tmps _ _ _ _ (two_set HR.out _ _) h2, h3])
        have HBF : Hid (Below w.heap.size w ((w5.setCell ⟨w.heap.size + 1, 0, none⟩ (.slice (some ⟨g, 0, none⟩) (len + k) cp)).setCell ⟨w.heap.size + 1, 1, none⟩ (.int .u64 (low : Nat)))) := hide (((HB5.out.trans (HX.out.1.mono (by omega))).setCell (p := ⟨w.heap.size + 1, 0, none⟩) (by show _ ≤ w.heap.size + 1; omega) _).setCell (p := ⟨w.heap.size + 1, 1, none⟩) (by show _ ≤ w.heap.size + 1; omega) _)
        have HOF : Hid (((w5.setCell ⟨w.heap.size + 1, 0, none⟩ (.slice (some ⟨g, 0, none⟩) (len + k) cp)).setCell ⟨w.heap.size + 1, 1, none⟩ (.int .u64 (low : Nat))).ownsRow (w.heap.size + 2) 66 4 (.slice (some ⟨g, 0, none⟩) (len + k) cp) (len + k) (L9.flatMap vrc)) := hide (ownsRow_setCell_below (ownsRow_setCell_below HX.out.2.1 (by show w.heap.size + 1 < w.heap.size + 2; omega) _) (by show w.heap.size + 1 < w.heap.size + 2; omega) _)
        go_wp2
        refine bodyPost_ret (HFIN.out Tryz.f39 _ rfl rfl rfl) rfl ?_
        obtain ⟨a', c', he, hI, hfr⟩ := own_isV (by rw [HX.out.2.2.1.length_eq, List.length_append, List.length_map, HLN.out, HWN.out]) HOF.out
        cases he
        exact ⟨_, _, _, rfl, hI, HX.out.2.2, HBF.out, fun b off e => by have := hfr b off e; omega⟩
end Go.Proofs.YtlkmcbelmldleaaGreat
