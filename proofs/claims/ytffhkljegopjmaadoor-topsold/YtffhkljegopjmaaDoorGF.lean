/- slices.DeleteFunc of pays -/
import Derived.Test.YtffhkljegopjmaaDoorGE
namespace Go.Proofs.YtffhkljegopjmaaDoor.Lg
open Go.RowKit
set_option maxRecDepth 40000
theorem takeS {l : List Py} {k : Nat} (h : k < l.length) : l.take (k + 1) = l.take k ++ [l.getD k Py0] := by
  rw [List.take_add_one, List.getD_eq_getElem?_getD, List.getElem?_eq_getElem h]; rfl
theorem dropS {l : List Py} {k : Nat} (h : k < l.length) : l.drop k = l.getD k Py0 :: l.drop (k + 1) := by
  rw [List.getD_eq_getElem?_getD, List.getElem?_eq_getElem h]
  exact List.drop_eq_getElem_cons h
theorem getD_drop {l r : List Py} {k : Nat} (h : l.drop k = r.drop k) : l.getD k Py0 = r.getD k Py0 := by
  have := congrArg (fun t => t.getD 0 Py0) h
  simpa [List.getD_eq_getElem?_getD, List.getElem?_drop] using this
theorem heap_lt_setCells {q : Nat} : ∀ {vs : List Value} {o : Nat} {w : World} {b : Nat}, b < w.heap.size → b < (w.setCells q o vs).heap.size
  | [], _, _, _, h => h
  | v :: r, o, w, b, h => heap_lt_setCells (vs := r) (o := o + 1) (w := w.setCell ⟨q, o, none⟩ v) (by simpa using h)
/-- what the row is, i written, j looked at -/
structure Del (p : Py → Bool) (l r : List Py) (i j : Nat) : Prop where
  len : r.length = l.length
  lt : i < j
  front : r.take i = (l.take j).filter (fun x => !p x)
  back : r.drop j = l.drop j
theorem Del.skip {p : Py → Bool} {l r : List Py} {i j : Nat} (h : Del p l r i j) (hj : j < l.length) (hp : p (l.getD j Py0) = true) : Del p l r i (j + 1) := by
  refine ⟨h.len, by have := h.lt; omega, ?_, ?_⟩
  · rw [List.getD_eq_getElem?_getD] at hp
    rw [takeS hj, List.filter_append, h.front]; simp [hp]
  · have := h.back
    rw [← List.drop_drop, ← List.drop_drop, this]
theorem Del.keep {p : Py → Bool} {l r : List Py} {i j : Nat} (h : Del p l r i j) (hj : j < l.length) (hp : p (l.getD j Py0) = false) : Del p l (r.set i (l.getD j Py0)) (i + 1) (j + 1) := by
  have hi : i < r.length := by have := h.lt; rw [h.len]; omega
  refine ⟨by rw [List.length_set]; exact h.len, by have := h.lt; omega, ?_, ?_⟩
  · rw [takeS hj, List.filter_append, ← h.front, takeS (by rw [List.length_set]; exact hi)]
    rw [List.take_set_of_le (Nat.le_refl _)]
    rw [List.getD_eq_getElem?_getD] at hp
    simp [hp, List.getD_eq_getElem?_getD, hi]
  · rw [List.drop_set_of_lt (by have := h.lt; omega), ← List.drop_drop, ← List.drop_drop, h.back]
theorem Del.start {p : Py → Bool} {l : List Py} {j : Nat} (hj : j < l.length) (hp : p (l.getD j Py0) = true) (hn : ∀ i, i < j → p (l.getD i Py0) = false) : Del p l l j (j + 1) := by
  refine ⟨rfl, by omega, ?_, rfl⟩
  rw [takeS hj, List.filter_append]
  have : (l.take j).filter (fun x => !p x) = l.take j := by
    rw [List.filter_eq_self]
    intro x hx
    obtain ⟨i, hi, rfl⟩ := List.mem_iff_getElem.1 hx
    have hij : i < j := by rw [List.length_take] at hi; omega
    have := hn i hij
    rw [List.getD_eq_getElem?_getD, List.getElem?_eq_getElem (by omega)] at this
    simpa using this
  rw [this]
  rw [List.getD_eq_getElem?_getD] at hp
  simp [hp]
theorem Del.mem {p : Py → Bool} {l r : List Py} {i j : Nat} (_ : Del p l r i j) : ∀ x ∈ l.filter (fun x => !p x), x ∈ l := fun _ hx => (List.mem_filter.1 hx).1
set_option maxHeartbeats 4000000 in
theorem delete_any (g : Nat) (p : Py → Bool) (hent : ∀ args W, (callFunc g args).run Tryd.prog W = .ok (.enter g args) W) (hcall : ∀ x W, Calls Tryd.prog g #[vp x] W fun e w' => e = .returned (.bool (p x)) ∧ Below W.heap.size W w') (q n : Nat) (l : List Py) (w : World) (hn : l.length = n) (h : RowP w q l) (ho : ∀ x ∈ l, okP x) (hl : n ≤ 100000) :
    Calls Tryd.prog 60 #[.slice (some ⟨q, 0, none⟩) n n, .func (.func g) #[] #[]] w fun e w' => ∃ m, e = .returned (.slice (some ⟨q, 0, none⟩) m n) ∧ IsP w' (some ⟨q, 0, none⟩) m n (l.filter (fun x => !p x)) ∧ Below q w w' := by
  have HN := hide hn
  have HO := hide ho
  have HH := hide h
  have HC := hide hcall
  have HI := hide (index_any g p hent hcall (some ⟨q, 0, none⟩) n n l w (by have := h.isP ho (by rw [hn]; unfold maxLen; omega); rw [hn] at this; exact this))
  have HQ := hide (heap_lt h)
  have HIP : Hid (IsP w (some ⟨q, 0, none⟩) n n l) := hide (by have := h.isP ho (by rw [hn]; unfold maxLen; omega); rw [hn] at this; exact this)
  clear h ho hcall hn
  go_enter Tryd.func60, Tryd.ntmps60
  go_wp2_with fail
  refine HI.out.mono ?_
  rintro e w1 ⟨⟨k, rfl, hk⟩, hb1⟩
  have HB1 := hide hb1
  clear hb1 HI
  rcases hk with ⟨rfl, hno⟩ | ⟨j0, hj0, rfl, hp0, hn0⟩
  · have HF : Hid (l.filter (fun x => !p x) = l) := hide (by
      rw [List.filter_eq_self]
      intro x hx
      obtain ⟨i, hi, rfl⟩ := List.mem_iff_getElem.1 hx
      have := hno i hi
      rw [List.getD_eq_getElem?_getD, List.getElem?_eq_getElem hi] at this
      simpa using this)
    clear hno
    go_wp2
    go_ret
    exact ⟨n, rfl, by rw [HF.out]; exact HIP.out.below' HB1.out, HB1.out.mono (Nat.le_of_lt HQ.out)⟩
  · have HD := hide (Del.start hj0 hp0 hn0)
    have hj0n : j0 < n := by rw [← HN.out]; exact hj0
    have hne : ¬ (j0 : Int) = -1 := by omega
    have hneb : ((j0 : Int) == -1) = false := by simp
    have hwj : IntKind.i64.wrap ((j0 : Int) + 1) = (j0 : Int) + 1 := wrap64 (by omega) (by omega)
    have HR1 := hide (HH.out.below HQ.out HB1.out)
    clear hp0 hn0 hj0 HH
    go_wp2
    go_loopw [5, 6] (fun iv jv wr => ∃ (i j : Nat) (r : List Py), j ≤ n ∧ iv = .int .i64 i ∧ jv = .int .i64 j ∧ Hid (Del p l r i j ∧ RowP wr q r ∧ Below q w wr)) (fun _ jv _ => n - (intOf jv).toNat)
    case atStart => exact ⟨j0, j0 + 1, l, by omega, rfl, by simp, hide ⟨HD.out, HR1.out, HB1.out.mono (Nat.le_of_lt HQ.out)⟩⟩
    case round =>
      obtain ⟨i, j, r, hj, rfl, rfl, HW⟩ := hrel
      have hij : i < j := HW.out.1.lt
      by_cases hlt : j < n
      · have hjl : j < l.length := by rw [HN.out]; exact hlt
        have hil : i < r.length := by rw [HW.out.1.len, HN.out]; omega
        have HX : Hid (r.getD j Py0 = l.getD j Py0) := hide (getD_drop HW.out.1.back)
        have HRo := hide HW.out.2.1
        have z0 := HRo.out.at (i := j) (by rw [HW.out.1.len]; exact hjl)
        rw [HX.out] at z0
        have HSK := hide (HW.out.1.skip hjl)
        have HKE := hide (HW.out.1.keep hjl)
        have HCx := hide (HC.out (l.getD j Py0))
        have HBq := hide HW.out.2.2
        have HSET := hide (fun (W : World) (hW : RowP W q r) => hW.set hil (l.getD j Py0))
        generalize l.getD j Py0 = x at *
        obtain ⟨x1, x2, x3, x4⟩ := x
        obtain ⟨z1, z2, z3, z4⟩ := z0
        dsimp only at z1 z2 z3 z4
        clear HW HX
        have HA1 : Hid (Below wr.heap.size wr (wr.alloc (.cells #[.int .i64 x1, .int .i64 x2, .int .i64 x3, .int .i64 x4] 47))) := hide ((Below.refl _ _).alloc (Nat.le_refl _) _)
        have HQr := hide (heap_lt HRo.out)
        have hjI : (j : Int) < (n : Int) := by omega
        have hiI : (i : Int) < (n : Int) := by omega
        have hiN : i < n := by omega
        have hj0' : (0 : Int) ≤ (j : Int) := by omega
        have hi0' : (0 : Int) ≤ (i : Int) := by omega
        have hwi : IntKind.i64.wrap ((i : Int) + 1) = (i : Int) + 1 := wrap64 (by omega) (by omega)
        have hwj2 : IntKind.i64.wrap ((j : Int) + 1) = (j : Int) + 1 := wrap64 (by omega) (by omega)
        cases hp : p ⟨x1, x2, x3, x4⟩
        · rw [hp] at HCx
          have HDn := hide (HKE.out hp)
          clear HSK HKE hp
          go_wp2_with fail
          refine (HCx.out _).mono ?_
          rintro e v ⟨rfl, hb⟩
          have HRv := hide ((HRo.out.below HQr.out HA1.out).below (Nat.lt_of_lt_of_le HQr.out HA1.out.size) hb)
          have HBx : Hid (BlkP v wr.heap.size ⟨x1, x2, x3, x4⟩) := hide (BlkP.below (heap_alloc_new _ _) (by simp) hb)
          have HBv : Hid (Below q w v) := hide (HBq.out.trans ((HA1.out.mono (Nat.le_of_lt HQr.out)).trans (hb.mono (Nat.le_trans (Nat.le_of_lt HQr.out) HA1.out.size))))
          clear hb z1 z2 z3 z4
          obtain ⟨c1, c2, c3, c4⟩ := HBx.out.cells
          obtain ⟨d1, d2, d3, d4⟩ := HRv.out.at hil
          have f1 := HRv.out.froz
          simp only [Nat.zero_add] at c1 c2 c3 c4
          have HRW : Hid (RowP ((((v.setCell ⟨q, i * 4, none⟩ (.int .i64 x1)).setCell ⟨q, i * 4 + 1, none⟩ (.int .i64 x2)).setCell ⟨q, i * 4 + 2, none⟩ (.int .i64 x3)).setCell ⟨q, i * 4 + 3, none⟩ (.int .i64 x4)) q (r.set i ⟨x1, x2, x3, x4⟩)) := hide (HSET.out v HRv.out)
          have HBW : Hid (Below q w ((((v.setCell ⟨q, i * 4, none⟩ (.int .i64 x1)).setCell ⟨q, i * 4 + 1, none⟩ (.int .i64 x2)).setCell ⟨q, i * 4 + 2, none⟩ (.int .i64 x3)).setCell ⟨q, i * 4 + 3, none⟩ (.int .i64 x4))) := hide (put4o_below HBv.out (Nat.le_refl _) ⟨x1, x2, x3, x4⟩)
          have hsi : Value.int IntKind.i64 ((i : Int) + 1) = Value.int IntKind.i64 ((i + 1 : Nat) : Int) := by simp
          have hsj : Value.int IntKind.i64 ((j : Int) + 1) = Value.int IntKind.i64 ((j + 1 : Nat) : Int) := by simp
          have HSI := hide hsi
          have HSJ := hide hsj
          clear hsi hsj
          go_wp2
          go_roundw
          case rel => exact ⟨i + 1, j + 1, r.set i ⟨x1, x2, x3, x4⟩, by omega, HSI.out, HSJ.out, hide ⟨HDn.out, HRW.out, HBW.out⟩⟩
          case measure => simp [intOf]; omega
        · rw [hp] at HCx
          have HDn := hide (HSK.out hp)
          clear HSK HKE hp
          go_wp2_with fail
          refine (HCx.out _).mono ?_
          rintro e v ⟨rfl, hb⟩
          have HRv := hide ((HRo.out.below HQr.out HA1.out).below (Nat.lt_of_lt_of_le HQr.out HA1.out.size) hb)
          have HBv : Hid (Below q w v) := hide (HBq.out.trans ((HA1.out.mono (Nat.le_of_lt HQr.out)).trans (hb.mono (Nat.le_trans (Nat.le_of_lt HQr.out) HA1.out.size))))
          clear hb z1 z2 z3 z4
          go_wp2
          go_roundw
          case rel => exact ⟨i, j + 1, r, by omega, by simp, by simp, hide ⟨HDn.out, HRv.out, HBv.out⟩⟩
          case measure => simp [intOf]; omega
      · obtain rfl : j = n := by omega
        have HDj := hide HW.out.1
        have HRo := hide HW.out.2.1
        have HBq := hide HW.out.2.2
        have HLr : Hid (r.length = j) := hide (HDj.out.len.trans HN.out)
        obtain ⟨zs, hzl, hclr⟩ := run_clear4 wr 0 q (i * 4) (j - i) (j - i) (by omega) (fun t ht => by
          have hlt2 : i * 4 + t < (r.flatMap pyc).toArray.size := by rw [List.size_toArray, pflat_len, HLr.out]; omega
          simp only [World.cell?, show wr.heap[q]? = _ from HRo.out]
          simp [Array.getElem?_eq_getElem hlt2]) (fun t _ => HRo.out.froz _)
        have HF : Hid (r.take i = l.filter (fun x => !p x)) := hide (by
          rw [HDj.out.front, ← HN.out, List.take_length])
        have HFL : Hid ((l.filter (fun x => !p x)).length = i) := hide (by rw [← HF.out, List.length_take, HLr.out]; omega)
        have HEND : Hid (IsP (wr.setCells q (i * 4) zs) (some ⟨q, 0, none⟩) i j (l.filter (fun x => !p x))) := hide (by
          refine ⟨HFL.out, by omega, by unfold maxLen; omega, fun x hx => HO.out x (HDj.out.mem x hx), fun t ht => ?_, by intro e; cases e⟩
          have hc := HRo.out.at (i := t) (by rw [HLr.out]; omega)
          have hg : r.getD t Py0 = (l.filter (fun x => !p x)).getD t Py0 := by
            rw [← HF.out, List.getD_eq_getElem?_getD, List.getD_eq_getElem?_getD, List.getElem?_take, if_pos ht]
          rw [hg] at hc
          refine ⟨q, 0, rfl, heap_lt_setCells (heap_lt HRo.out), ?_⟩
          rw [Nat.zero_add]
          obtain ⟨h1, h2, h3, h4⟩ := hc
          exact ⟨(cell_setCells_lt q zs _ wr q _ (.inr (by omega))).trans h1, (cell_setCells_lt q zs _ wr q _ (.inr (by omega))).trans h2, (cell_setCells_lt q zs _ wr q _ (.inr (by omega))).trans h3, (cell_setCells_lt q zs _ wr q _ (.inr (by omega))).trans h4⟩)
        have HEB := hide (below_setCells q zs (i * 4) HBq.out (Nat.le_refl _))
        have hiI : (i : Int) ≤ (j : Int) := by omega
        have hi0' : (0 : Int) ≤ (i : Int) := by omega
        clear HW hzl
        generalize wr.setCells q (i * 4) zs = W9 at *
        go_wp2
        go_ret
        exact ⟨i, rfl, HEND.out, HEB.out⟩
end Go.Proofs.YtffhkljegopjmaaDoor.Lg
