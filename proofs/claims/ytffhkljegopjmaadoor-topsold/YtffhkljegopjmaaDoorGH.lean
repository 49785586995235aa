/- paysOf -/
import Derived.Test.YtffhkljegopjmaaDoorGG
namespace Go.Proofs.YtffhkljegopjmaaDoor.Lg
open Go.RowKit
set_option maxRecDepth 40000
theorem step_none {A : List Py} {x : Pg} (h : postB x = false) : stepR A x = none := by unfold stepR; rw [if_neg (by rw [h]; decide)]
theorem step_bey {A : List Py} {x : Pg} (h : beyB (behR (A.getD x.o.toNat Py0) x) = true) : stepR A x = none := by unfold stepR; split <;> rfl
theorem step_some {A : List Py} {x : Pg} (h : postB x = true) (h2 : beyB (behR (A.getD x.o.toNat Py0) x) = false) : stepR A x = some (A.set x.o.toNat (behR (A.getD x.o.toNat Py0) x)) := by unfold stepR; rw [if_pos h, if_neg (by rw [h2]; decide)]
theorem pays_fold {ps : List Pg} {n k : Nat} {A : List Py} (hn : ps.length = n) (hk : k < n) (hA : foldR (ps.take k) (List.replicate 1025 Py0) = some A) (hs : stepR A (ps.getD k Pg0) = none) : paysR ps = none := by
  have h1 : ps = ps.take k ++ ps.getD k Pg0 :: ps.drop (k + 1) := by
    rw [List.getD_eq_getElem?_getD, List.getElem?_eq_getElem (by omega)]
    conv => lhs; rw [← List.take_append_drop k ps, List.drop_eq_getElem_cons (by omega)]
    rfl
  unfold paysR
  rw [h1, foldR_append, hA]
  simp only [Option.bind_some, foldR, hs]
  split <;> rfl
theorem fold_take {ps : List Pg} {n k : Nat} {A B : List Py} (hn : ps.length = n) (hk : k < n) (hA : foldR (ps.take k) (List.replicate 1025 Py0) = some A) (hs : stepR A (ps.getD k Pg0) = some B) : foldR (ps.take (k + 1)) (List.replicate 1025 Py0) = some B := by
  have h1 : ps.take (k + 1) = ps.take k ++ [ps.getD k Pg0] := by
    rw [List.take_add_one, List.getD_eq_getElem?_getD, List.getElem?_eq_getElem (by omega)]; rfl
  rw [h1, foldR_append, hA]
  simp only [Option.bind_some, foldR, hs]
abbrev Z4 : Obj := .cells #[.int .i64 0, .int .i64 0, .int .i64 0, .int .i64 0] 47
theorem below_za (v : World) : Below v.heap.size v (v.drew.alloc Z4) := (Below.refl _ _).drew.alloc (Nat.le_refl _) _
theorem o1 (v : World) {w' : World} (h : Below v.drew.heap.size v.drew w') : Below v.heap.size v w' ∧ True := ⟨(Below.refl v.heap.size v).drew.trans (h.mono (Nat.le_refl _)), trivial⟩
theorem o2 (v : World) {w' : World} (h : Below (v.drew.alloc Z4).heap.size (v.drew.alloc Z4) w') : Below v.heap.size v w' ∧ BlkP w' v.heap.size ⟨0, 0, 0, 0⟩ :=
  ⟨(below_za v).trans (h.mono (below_za v).size), (h.block v.heap.size (by simp)).trans (heap_alloc_new v.drew _)⟩
theorem set4_below {n g : Nat} {a w : World} (h : Below n a w) (hn : n ≤ g) (v1 v2 v3 v4 : Value) : Below n a ((((w.setCell ⟨g, 0, none⟩ v1).setCell ⟨g, 1, none⟩ v2).setCell ⟨g, 2, none⟩ v3).setCell ⟨g, 3, none⟩ v4) :=
  (((h.setCell hn _).setCell hn _).setCell hn _).setCell hn _
/-- ahead of isBeyond -/
def MidP (w W : World) (q xb g : Nat) (A : List Py) (x : Pg) (y : Py) : Prop := BlkP W g y ∧ RowP W q A ∧ BlkG W xb x ∧ Below q w W ∧ q < g
theorem mid1 {w v w' : World} {q xb : Nat} {A : List Py} {x : Pg} (h : Below v.heap.size v w') (hr : RowP v q A) (hx : BlkG v xb x) (hw : Below q w v) (y1 y2 y3 y4 : Int) : MidP w (w'.alloc (.cells #[.int .i64 y1, .int .i64 y2, .int .i64 y3, .int .i64 y4] 47)) q xb w'.heap.size A x ⟨y1, y2, y3, y4⟩ := by
  have hv := heap_lt hr
  have ha : Below v.heap.size v (w'.alloc (.cells #[.int .i64 y1, .int .i64 y2, .int .i64 y3, .int .i64 y4] 47)) := h.alloc h.size _
  exact ⟨heap_alloc_new _ _, hr.below hv ha, hx.below (heap_lt hx) ha, hw.trans (ha.mono (Nat.le_of_lt hv)), Nat.lt_of_lt_of_le hv h.size⟩
theorem mid2 {w v w' : World} {q xb : Nat} {A : List Py} {x : Pg} (h : Below v.heap.size v w' ∧ BlkP w' v.heap.size ⟨0, 0, 0, 0⟩) (hr : RowP v q A) (hx : BlkG v xb x) (hw : Below q w v) (y1 y2 y3 y4 : Int) : MidP w ((((w'.setCell ⟨v.heap.size, 0, none⟩ (.int .i64 y1)).setCell ⟨v.heap.size, 1, none⟩ (.int .i64 y2)).setCell ⟨v.heap.size, 2, none⟩ (.int .i64 y3)).setCell ⟨v.heap.size, 3, none⟩ (.int .i64 y4)) q xb v.heap.size A x ⟨y1, y2, y3, y4⟩ := by
  have hv := heap_lt hr
  have ha : Below v.heap.size v ((((w'.setCell ⟨v.heap.size, 0, none⟩ (.int .i64 y1)).setCell ⟨v.heap.size, 1, none⟩ (.int .i64 y2)).setCell ⟨v.heap.size, 2, none⟩ (.int .i64 y3)).setCell ⟨v.heap.size, 3, none⟩ (.int .i64 y4)) := set4_below h.1 (Nat.le_refl _) _ _ _ _
  exact ⟨put4_blk h.2 ⟨y1, y2, y3, y4⟩, hr.below hv ha, hx.below (heap_lt hx) ha, hw.trans (ha.mono (Nat.le_of_lt hv)), hv⟩
theorem hent20 (args : Array Value) (W : World) : (callFunc 34 args).run Tryd.prog W = .ok (.enter 34 args) W := Go.Proofs.enters_of Tryd.func34 (by kernel_rfl) rfl args W
theorem hent31 (args : Array Value) (W : World) : (callFunc 62 args).run Tryd.prog W = .ok (.enter 62 args) W := Go.Proofs.enters_of Tryd.func62 (by kernel_rfl) rfl args W
theorem round_rel {w w9 : World} {q t : Nat} {A : List Py} {y1 y2 y3 y4 : Int} {n : Nat} (hr : RowP w9 q A) (hb : Below q w w9) (ht : t < A.length) (hl : A.length = n) (hin : ∀ x ∈ A, inB x) (hy : inB ⟨y1, y2, y3, y4⟩) :
    (A.set t ⟨y1, y2, y3, y4⟩).length = n ∧ (∀ x ∈ A.set t ⟨y1, y2, y3, y4⟩, inB x) ∧ RowP ((((w9.setCell ⟨q, t * 4, none⟩ (.int .i64 y1)).setCell ⟨q, t * 4 + 1, none⟩ (.int .i64 y2)).setCell ⟨q, t * 4 + 2, none⟩ (.int .i64 y3)).setCell ⟨q, t * 4 + 3, none⟩ (.int .i64 y4)) q (A.set t ⟨y1, y2, y3, y4⟩) ∧ Below q w ((((w9.setCell ⟨q, t * 4, none⟩ (.int .i64 y1)).setCell ⟨q, t * 4 + 1, none⟩ (.int .i64 y2)).setCell ⟨q, t * 4 + 2, none⟩ (.int .i64 y3)).setCell ⟨q, t * 4 + 3, none⟩ (.int .i64 y4)) :=
  ⟨by rw [List.length_set]; exact hl, fun x hx => (List.mem_or_eq_of_mem_set hx).elim (hin x) (fun e => e ▸ hy), hr.set ht ⟨y1, y2, y3, y4⟩, put4o_below hb (Nat.le_refl _) ⟨y1, y2, y3, y4⟩⟩
theorem meas {k len : Nat} (h : k < len) : len - (intOf (Value.int IntKind.i64 ((k : Int) + 1))).toNat < len - (intOf (Value.int IntKind.i64 (k : Int))).toNat := by simp [intOf]; omega
theorem cast1 (k : Nat) : Value.int IntKind.i64 ((k : Int) + 1) = Value.int IntKind.i64 ((k + 1 : Nat) : Int) := by simp
set_option maxHeartbeats 8000000 in
set_option maxRecDepth 8000 in
theorem paysOf_any (a : Option Addr) (len cap : Nat) (ps : List Pg) (w : World) (h : IsG w a len cap ps) : Calls Tryd.prog 52 #[.slice a len cap] w (PaysP ps w) := by
  have H := hide h
  have HN := hide h.1
  clear h
  obtain ⟨inf, hi1, hi2, hi3, hi4⟩ := info_partsC info30
  have HI4 := hide hi4
  clear hi4
  by_cases hbig : 16384 < len
  · have hbI : (16384 : Int) < (len : Int) := by omega
    have HF : Hid (paysR ps = none) := hide (by unfold paysR; rw [if_neg (by rw [HN.out]; omega)])
    clear hi1 hi2 hi3
    go_enter Tryd.func52, Tryd.ntmps52
    go_wp2
    go_ret2
    exact .inr ⟨rfl, HF.out, Below.refl _ _⟩
  have hf : ¬ ((16384 : Int) < (len : Int)) := by omega
  obtain ⟨w1, hrun, hr1, hg1⟩ := run_make_full (P := Tryd.prog) (w := w) w.heap.size 32 47 inf (vp Py0) 4 Tryd.underlying32 hi1 hi2 hi3 .i64 .i64 1025 (by rw [HI4.out]; decide) (by unfold maxLen; omega) (Nat.le_refl _)
  have hrun2 : (Instr.makeSlice 32 (.int .i64 1025) (.int .i64 1025)).run Tryd.prog w = .ok (.slice (some ⟨w.heap.size, 0, none⟩) 1025 1025) w1 := hrun
  have HR1 := hide (made_row hr1)
  have HB1 : Hid (Below w.heap.size w w1) := hide ((Below.refl _ _).grown hg1 (Nat.le_refl _) (by intro k e; cases e))
  clear hr1 hg1 hi1 hi2 hi3 hrun
  go_enter Tryd.func52, Tryd.ntmps52
  go_wp2
  clear hrun2
  go_loopw [15] (fun kv wr => ∃ (k : Nat) (A : List Py), k ≤ len ∧ kv = .int .i64 k ∧ Hid (foldR (ps.take k) (List.replicate 1025 Py0) = some A ∧ A.length = 1025 ∧ (∀ x ∈ A, inB x) ∧ RowP wr w.heap.size A ∧ Below w.heap.size w wr)) (fun kv _ => len - (intOf kv).toNat)
  case atStart => exact ⟨0, List.replicate 1025 Py0, by omega, rfl, hide ⟨by rw [List.take_zero]; rfl, List.length_replicate .., fun x hx => by rw [(List.mem_replicate.1 hx).2]; unfold inB i64B Py0; simp, HR1.out, HB1.out⟩⟩
  case round =>
    obtain ⟨k, A, hk, rfl, HW⟩ := hrel
    by_cases hlt : k < len
    · have HFO := hide HW.out.1
      have HAL := hide HW.out.2.1
      have HIN := hide HW.out.2.2.1
      have HRo := hide HW.out.2.2.2.1
      have HBw := hide HW.out.2.2.2.2
      clear HW
      have hkI : (k : Int) < (len : Int) := by omega
      have hk0 : (0 : Int) ≤ (k : Int) := by omega
      obtain ⟨bs, off, rfl, hbs, y0⟩ := (H.out.below' HBw.out).2.2.2.2.1 k hlt
      have HNO : Hid (∀ _ : stepR A (ps.getD k Pg0) = none, paysR ps = none) := hide (pays_fold HN.out hlt HFO.out)
      have HSO : Hid (∀ (B : List Py) (_ : stepR A (ps.getD k Pg0) = some B), foldR (ps.take (k + 1)) (List.replicate 1025 Py0) = some B) := hide (fun B => fold_take HN.out hlt HFO.out)
      generalize ps.getD k Pg0 = x at *
      obtain ⟨x1, x2, x3, x4⟩ := x
      have HPO := hide (fun W => posting_any ⟨x1, x2, x3, x4⟩ W)
      obtain ⟨z1, z2, z3, z4⟩ := y0
      dsimp only at z1 z2 z3 z4
      have HA1 : Hid (Below wr.heap.size wr (wr.alloc (.cells #[.int .i64 x1, .int .u8 x2, .int .u8 x3, .int .i64 x4] 92))) := hide ((Below.refl _ _).alloc (Nat.le_refl _) _)
      have HQr := hide (heap_lt HRo.out)
      cases hp : postB ⟨x1, x2, x3, x4⟩
      · rw [hp] at HPO
        have HNN := hide (HNO.out (step_none hp))
        clear hp
        go_wp2_with (first | (go_at_call 59; refine (HPO.out _).mono ?_; rintro e v ⟨rfl, hb⟩))
        go_ret2
        exact .inr ⟨rfl, HNN.out, HBw.out.trans ((HA1.out.mono (Nat.le_of_lt HQr.out)).trans (hb.mono (Nat.le_trans (Nat.le_of_lt HQr.out) HA1.out.size)))⟩
      · rw [hp] at HPO
        have HP := hide hp
        clear hp
        go_wp2_with (first | (go_at_call 59; refine (HPO.out _).mono ?_; rintro e v ⟨rfl, hb⟩; have HRv := hide ((HRo.out.below HQr.out HA1.out).below (Nat.lt_of_lt_of_le HQr.out HA1.out.size) hb); have HBv : Hid (Below w.heap.size w v) := hide (HBw.out.trans ((HA1.out.mono (Nat.le_of_lt HQr.out)).trans (hb.mono (Nat.le_trans (Nat.le_of_lt HQr.out) HA1.out.size)))); have HBx : Hid (BlkG v wr.heap.size ⟨x1, x2, x3, x4⟩) := hide (BlkG.below (heap_alloc_new _ _) (by simp) hb); clear hb z1 z2 z3 z4))
        obtain ⟨t, rfl⟩ : ∃ t : Nat, x1 = (t : Int) := ⟨x1.toNat, by have := HP.out; simp only [postB, ordB, Bool.and_eq_true, decide_eq_true_eq] at this; omega⟩
        have ht : t < 1025 := by have := HP.out; simp only [postB, ordB, Bool.and_eq_true, decide_eq_true_eq] at this; omega
        have hxS : SmallN x4 := by have := HP.out; simp only [postB, amtB, Bool.and_eq_true, decide_eq_true_eq] at this; unfold SmallN; omega
        have htA : t < A.length := by rw [HAL.out]; exact ht
        have hinp : inB (A.getD t Py0) := HIN.out _ (by rw [List.getD_eq_getElem?_getD, List.getElem?_eq_getElem htA]; exact List.getElem_mem htA)
        have HBE := hide (fun W => behind_any (A.getD t Py0) ⟨t, x2, x3, x4⟩ W (inB_small hinp) hxS)
        have HBY := hide (fun W => beyond_any (behR (A.getD t Py0) ⟨t, x2, x3, x4⟩) W)
        have HNO2 : Hid (beyB (behR (A.getD t Py0) ⟨t, x2, x3, x4⟩) = true → paysR ps = none) := hide (fun h => HNO.out (step_bey (by simpa using h)))
        have HSO2 : Hid (beyB (behR (A.getD t Py0) ⟨t, x2, x3, x4⟩) = false → foldR (ps.take (k + 1)) (List.replicate 1025 Py0) = some (A.set t (behR (A.getD t Py0) ⟨t, x2, x3, x4⟩)) ∧ inB (behR (A.getD t Py0) ⟨t, x2, x3, x4⟩)) := hide (fun h => ⟨HSO.out _ (by have := step_some HP.out (A := A) (by simpa using h); simpa using this), inB_beh hinp HP.out h⟩)
        have HRC := hide (HRv.out.at htA)
        have HXC := hide HBx.out.cells
        have hvz : wr.heap.size < v.heap.size := heap_lt HBx.out
        have hvw : w.heap.size < v.heap.size := heap_lt HRv.out
        generalize behR (A.getD t Py0) ⟨t, x2, x3, x4⟩ = y at *
        generalize A.getD t Py0 = p at *
        obtain ⟨y1, y2, y3, y4⟩ := y
        obtain ⟨p1, p2, p3, p4⟩ := p
        have HS0 : Hid (∀ W : World, Below v.heap.size v W → (W.cell? ⟨wr.heap.size, 0, none⟩ = some (.int .i64 (t : Int)) ∧ W.cell? ⟨wr.heap.size, 1, none⟩ = some (.int .u8 x2) ∧ W.cell? ⟨wr.heap.size, 2, none⟩ = some (.int .u8 x3) ∧ W.cell? ⟨wr.heap.size, 3, none⟩ = some (.int .i64 x4) ∧ W.cell? ⟨w.heap.size, t * 4, none⟩ = some (.int .i64 p1) ∧ W.cell? ⟨w.heap.size, t * 4 + 1, none⟩ = some (.int .i64 p2) ∧ W.cell? ⟨w.heap.size, t * 4 + 2, none⟩ = some (.int .i64 p3) ∧ W.cell? ⟨w.heap.size, t * 4 + 3, none⟩ = some (.int .i64 p4))) := hide (fun W hW => by
          obtain ⟨c1, c2, c3, c4⟩ := HXC.out
          obtain ⟨d1, d2, d3, d4⟩ := HRC.out
          simp only [Nat.zero_add] at c1 c2 c3 c4
          have cc : ∀ b j, b < v.heap.size → W.cell? ⟨b, j, none⟩ = v.cell? ⟨b, j, none⟩ := fun b j h => World.cell?_of_block (hW.block b h)
          exact ⟨(cc _ _ hvz).trans c1, (cc _ _ hvz).trans c2, (cc _ _ hvz).trans c3, (cc _ _ hvz).trans c4, (cc _ _ hvw).trans d1, (cc _ _ hvw).trans d2, (cc _ _ hvw).trans d3, (cc _ _ hvw).trans d4⟩)
        have ht0 : (0 : Int) ≤ (t : Int) := by omega
        have htI : (t : Int) < 1025 := by omega
        clear hinp hxS
        go_region_held (fun W : World => (W.cell? ⟨wr.heap.size, 0, none⟩ = some (.int .i64 (t : Int)) ∧ W.cell? ⟨wr.heap.size, 1, none⟩ = some (.int .u8 x2) ∧ W.cell? ⟨wr.heap.size, 2, none⟩ = some (.int .u8 x3) ∧ W.cell? ⟨wr.heap.size, 3, none⟩ = some (.int .i64 x4) ∧ W.cell? ⟨w.heap.size, t * 4, none⟩ = some (.int .i64 p1) ∧ W.cell? ⟨w.heap.size, t * 4 + 1, none⟩ = some (.int .i64 p2) ∧ W.cell? ⟨w.heap.size, t * 4 + 2, none⟩ = some (.int .i64 p3) ∧ W.cell? ⟨w.heap.size, t * 4 + 3, none⟩ = some (.int .i64 p4))) (first | exact HS0.out _ HBV.1 | exact HS0.out _ (HBV.1.alloc HBV.1.size _) | exact HS0.out _ (set4_below HBV.1 (Nat.le_refl _) _ _ _ _) | exact HS0.out _ (Below.refl _ _).drew | exact HS0.out _ (below_za v)) (first | (go_at_call 47; refine (HBE.out _).mono ?_; rintro e w' ⟨rfl, HBo⟩; first | (have HBV := o1 v HBo; clear HBo) | (have HBV := o2 v HBo; clear HBo; have f1 := HBV.2.froz; obtain ⟨q1, q2, q3, q4⟩ := HBV.2.cells; simp only [Nat.zero_add] at q1 q2 q3 q4)))
        · have HM := hide (mid1 HBV.1 HRv.out HBx.out HBv.out y1 y2 y3 y4)
          clear HBV
          generalize w'.alloc (.cells #[.int .i64 y1, .int .i64 y2, .int .i64 y3, .int .i64 y4] 47) = W8 at HM ⊢
          generalize w'.heap.size = g7 at HM ⊢
          have HPW := hide HM.out.1
          have HRW := hide HM.out.2.1
          have HGW := hide HM.out.2.2.1
          have HBW := hide HM.out.2.2.2.1
          clear HM HRv HBv HBx HRC HXC HS0 HBE HRo HBw HPO HA1 HNO HSO HR1 HB1
          obtain ⟨e1, e2, e3, e4⟩ := HPW.out.cells
          simp only [Nat.zero_add] at e1 e2 e3 e4
          cases hB : beyB ⟨y1, y2, y3, y4⟩
          · rw [hB] at HBY
            have HS9 := hide (HSO2.out hB)
            clear hB HSO2 HNO2
            go_wp2_with (first | (go_at_call 48; refine (HBY.out _).mono ?_; rintro e w9 ⟨rfl, hb9⟩; have HP9 := hide (HPW.out.below (heap_lt HPW.out) hb9); have HR9 := hide (HRW.out.below (heap_lt HRW.out) hb9); have HG9 := hide (HGW.out.below (heap_lt HGW.out) hb9); have HB9 : Hid (Below w.heap.size w w9) := hide (HBW.out.trans (hb9.mono HBW.out.size)); clear hb9 e1 e2 e3 e4; have fR := HR9.out.froz; obtain ⟨e1, e2, e3, e4⟩ := HP9.out.cells; obtain ⟨c1, c2, c3, c4⟩ := HG9.out.cells; obtain ⟨d1, d2, d3, d4⟩ := HR9.out.at htA; simp only [Nat.zero_add] at e1 e2 e3 e4 c1 c2 c3 c4))
            have HRR := hide (round_rel (y1 := y1) (y2 := y2) (y3 := y3) (y4 := y4) HR9.out HB9.out htA HAL.out HIN.out HS9.out.2)
            exact ⟨⟨k + 1, A.set t ⟨y1, y2, y3, y4⟩, hlt, cast1 k, HS9.out.1, HRR.out⟩, meas hlt⟩
          · rw [hB] at HBY
            have HS9 := hide (HNO2.out hB)
            clear hB HSO2 HNO2
            go_wp2_with (first | (go_at_call 48; refine (HBY.out _).mono ?_; rintro e w9 ⟨rfl, hb9⟩))
            go_ret2
            exact .inr ⟨rfl, HS9.out, HBW.out.trans (hb9.mono HBW.out.size)⟩
        · have HM := hide (mid2 HBV HRv.out HBx.out HBv.out y1 y2 y3 y4)
          clear HBV f1 q1 q2 q3 q4
          generalize ((((w'.setCell ⟨v.heap.size, 0, none⟩ (.int .i64 y1)).setCell ⟨v.heap.size, 1, none⟩ (.int .i64 y2)).setCell ⟨v.heap.size, 2, none⟩ (.int .i64 y3)).setCell ⟨v.heap.size, 3, none⟩ (.int .i64 y4)) = W8 at HM ⊢
          generalize v.heap.size = g7 at HM ⊢
          have HPW := hide HM.out.1
          have HRW := hide HM.out.2.1
          have HGW := hide HM.out.2.2.1
          have HBW := hide HM.out.2.2.2.1
          clear HM HRv HBv HBx HRC HXC HS0 HBE HRo HBw HPO HA1 HNO HSO HR1 HB1
          obtain ⟨e1, e2, e3, e4⟩ := HPW.out.cells
          simp only [Nat.zero_add] at e1 e2 e3 e4
          cases hB : beyB ⟨y1, y2, y3, y4⟩
          · rw [hB] at HBY
            have HS9 := hide (HSO2.out hB)
            clear hB HSO2 HNO2
            go_wp2_with (first | (go_at_call 48; refine (HBY.out _).mono ?_; rintro e w9 ⟨rfl, hb9⟩; have HP9 := hide (HPW.out.below (heap_lt HPW.out) hb9); have HR9 := hide (HRW.out.below (heap_lt HRW.out) hb9); have HG9 := hide (HGW.out.below (heap_lt HGW.out) hb9); have HB9 : Hid (Below w.heap.size w w9) := hide (HBW.out.trans (hb9.mono HBW.out.size)); clear hb9 e1 e2 e3 e4; have fR := HR9.out.froz; obtain ⟨e1, e2, e3, e4⟩ := HP9.out.cells; obtain ⟨c1, c2, c3, c4⟩ := HG9.out.cells; obtain ⟨d1, d2, d3, d4⟩ := HR9.out.at htA; simp only [Nat.zero_add] at e1 e2 e3 e4 c1 c2 c3 c4))
            have HRR := hide (round_rel (y1 := y1) (y2 := y2) (y3 := y3) (y4 := y4) HR9.out HB9.out htA HAL.out HIN.out HS9.out.2)
            exact ⟨⟨k + 1, A.set t ⟨y1, y2, y3, y4⟩, hlt, cast1 k, HS9.out.1, HRR.out⟩, meas hlt⟩
          · rw [hB] at HBY
            have HS9 := hide (HNO2.out hB)
            clear hB HSO2 HNO2
            go_wp2_with (first | (go_at_call 48; refine (HBY.out _).mono ?_; rintro e w9 ⟨rfl, hb9⟩))
            go_ret2
            exact .inr ⟨rfl, HS9.out, HBW.out.trans (hb9.mono HBW.out.size)⟩
    · obtain rfl : k = len := by omega
      have HFA : Hid (foldR ps (List.replicate 1025 Py0) = some A) := hide (by have := HW.out.1; rwa [List.take_of_length_le (by rw [HN.out]; exact Nat.le_refl _)] at this)
      have HPS : Hid (paysR ps = if (A.filter (fun x => !noneB x)).any owesB = true then none else some (A.filter (fun x => !noneB x))) := hide (by unfold paysR; rw [if_pos (by rw [HN.out]; omega), HFA.out]; rfl)
      have HDE := hide (delete_any 34 noneB hent20 nothing_any w.heap.size 1025 A wr HW.out.2.1 HW.out.2.2.2.1 (fun x hx => inB_ok (HW.out.2.2.1 x hx)) (by omega))
      have HBw := hide HW.out.2.2.2.2
      have HCO := hide (fun m W (h : IsP W (some ⟨w.heap.size, 0, none⟩) m 1025 (A.filter (fun x => !noneB x))) => contains_any 62 owesB hent31 owes_any _ _ _ _ W h)
      clear HW HFA HR1 HB1
      generalize A.filter (fun x => !noneB x) = P at *
      cases hany : P.any owesB
      · simp only [hany] at HCO HPS
        clear hany
        go_wp2_with (first | (go_at_call 60; refine HDE.out.mono ?_; rintro e w8 ⟨m, rfl, hI, hb8⟩; have HI8 := hide hI; have HB8 := hide (HBw.out.trans hb8); clear hI hb8) | (go_at_call 61; refine (HCO.out _ _ HI8.out).mono ?_; rintro e w9 ⟨rfl, hb9⟩))
        go_ret2
        exact .inl ⟨_, _, _, P, rfl, by rw [HPS.out]; simp, HI8.out.below' hb9, HB8.out.trans (hb9.mono HB8.out.size)⟩
      · simp only [hany] at HCO HPS
        clear hany
        go_wp2_with (first | (go_at_call 60; refine HDE.out.mono ?_; rintro e w8 ⟨m, rfl, hI, hb8⟩; have HI8 := hide hI; have HB8 := hide (HBw.out.trans hb8); clear hI hb8) | (go_at_call 61; refine (HCO.out _ _ HI8.out).mono ?_; rintro e w9 ⟨rfl, hb9⟩))
        go_ret2
        exact .inr ⟨rfl, by rw [HPS.out]; simp, HB8.out.trans (hb9.mono HB8.out.size)⟩
end Go.Proofs.YtffhkljegopjmaaDoor.Lg
