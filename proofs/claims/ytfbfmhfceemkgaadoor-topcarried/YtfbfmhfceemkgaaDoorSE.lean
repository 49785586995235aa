/- where a shipment stands -/
import Derived.Test.YtfbfmhfceemkgaaDoorSD
namespace Go.Proofs.YtfbfmhfceemkgaaDoor
open Go.RowKit
theorem hTake {P : Program} {ops : Array Oper} {Q : Exit → Act → World → Prop} {md : Region.Mode} {S : World → Prop} {i : Nat} {oi : Oper} {v : Value} {fuel : Nat} {listed : Array Bool} {a : Act} {w : World} (d : Option Tmp) (hi : ops[i]? = some oi) (hd : oi.dst = d)
    (hs : Region.noSelect ops = true) (hf : Region.free md ops listed i = true) (hr : (Region.ready md ops listed).contains i = true) (hQ : ∀ c a w, Q (.panic c) (a.put d v) w → Q (.panic c) a w)
    (hwt : Region.wanted oi (yielded ops a.tmps) = true) (hS : S w) (hy : ∀ w, S w → (execOp a.eval oi).run P w = .ok (.value v) w)
    (h : wpAnyH P md ops Q S fuel (listed.setIfInBounds i true) (a.put d v) w) : wpAnyH P md ops Q S (fuel + 1) listed a w := by
  subst hd
  exact wpAnyH_take hi hs hf hr hQ (.inl ⟨hwt, hy⟩) hS h
theorem hSkip {P : Program} {ops : Array Oper} {Q : Exit → Act → World → Prop} {md : Region.Mode} {S : World → Prop} {i : Nat} {oi : Oper} {fuel : Nat} {listed : Array Bool} {a : Act} {w : World} (d : Option Tmp) (hi : ops[i]? = some oi) (hd : oi.dst = d)
    (hs : Region.noSelect ops = true) (hf : Region.free md ops listed i = true) (hr : (Region.ready md ops listed).contains i = true) (hQ : ∀ c a w, Q (.panic c) (a.put d undef) w → Q (.panic c) a w)
    (hwt : Region.wanted oi (yielded ops a.tmps) = false) (hS : S w)
    (h : wpAnyH P md ops Q S fuel (listed.setIfInBounds i true) (a.put d undef) w) : wpAnyH P md ops Q S (fuel + 1) listed a w := by
  subst hd
  exact wpAnyH_take hi hs hf hr hQ (.inr ⟨hwt, rfl⟩) hS h
theorem hOne {P : Program} {ops : Array Oper} {Q : Exit → Act → World → Prop} {md : Region.Mode} {S : World → Prop} {i : Nat} {o : Oper} {fuel : Nat} {listed : Array Bool} {a : Act} {w : World} (ho : ops[i]? = some o) (hr : Region.ready md ops listed = [i])
    (h : ∀ K' : Act → World → Prop, Shut (∀ a w, S w → (S w → wpAnyH P md ops Q S fuel (listed.setIfInBounds i true) a w) → K' a w) → if Region.wanted o (yielded ops a.tmps) = true then Oper.wp P o a w K' Q else K' (a.put o.dst undef) w) : wpAnyH P md ops Q S (fuel + 1) listed a w :=
  wpAnyH_ready hr (by simp) (AllReadyH.cons ho h AllReadyH.nil)
/-- how two shipments stand -/
def ordS (a b : Sh) : Int := cmpI a.od b.od
theorem ord_any (a b : Sh) (w : World) : Calls Tryd.prog 28 #[vs a, vs b] w fun e w' => e = .returned (.int .i64 (ordS a b)) ∧ Below w.heap.size w w' := by
  have HT : Hid (ordS a b = cmpI a.od b.od) := hide rfl
  generalize ordS a b = r at *
  obtain ⟨a1, a2⟩ := a
  obtain ⟨b1, b2⟩ := b
  simp only at HT
  have CM := hide (fun W => cmp_any a1 b1 W)
  have HB : Hid (Below w.heap.size w ((w.alloc (.cells #[.int .i64 a1, .int .u8 a2] 55)).alloc (.cells #[.int .i64 b1, .int .u8 b2] 55))) := hide (((Below.refl _ w).alloc (Nat.le_refl _) _).alloc (by simp) _)
  generalize cmpI a1 b1 = c1 at *
  go_enter Tryd.func28, Tryd.ntmps28
  go_wp2_with (first | (go_at_call 33; refine (CM.out _).mono ?_; rintro e w' ⟨rfl, rfl⟩))
  go_ret
  exact ⟨ret_int HT.out.symm, HB.out⟩
/-- a shipment of none -/
def noS (n : Int) : Sh := ⟨n, 0⟩
/-- how many stand ahead -/
def lowN (l : List Sh) (t : Sh) : Nat := (l.takeWhile (fun x => decide (ordS x t < 0))).length
def hasB (l : List Sh) (t : Sh) : Bool := decide (lowN l t < l.length) && decide (ordS (l.getD (lowN l t) Sh0) t = 0)
theorem takeWhile_len {α : Type} (p : α → Bool) (d : α) : ∀ (l : List α) (k : Nat), k ≤ l.length → (∀ j, j < k → p (l.getD j d) = true) → (k < l.length → p (l.getD k d) = false) → (l.takeWhile p).length = k
  | [], k, hk, _, _ => by simp at hk; simp [hk]
  | a :: r, 0, _, _, h2 => by
    have := h2 (by simp)
    simp only [List.getD_cons_zero] at this
    rw [List.takeWhile_cons_of_neg (by simp [this])]; rfl
  | a :: r, k + 1, hk, h1, h2 => by
    have h0 := h1 0 (by omega)
    simp only [List.getD_cons_zero] at h0
    rw [List.takeWhile_cons_of_pos h0, List.length_cons, takeWhile_len p d r k (by simpa using hk) (fun j hj => by simpa using h1 (j + 1) (by omega)) (fun h => by simpa using h2 (by simpa using h))]
/-- what precedes the target stands ahead of what does not -/
def MonoB (l : List Sh) (t : Sh) : Prop := ∀ a b, a ≤ b → b < l.length → ordS (l.getD b Sh0) t < 0 → ordS (l.getD a Sh0) t < 0
set_option maxHeartbeats 2000000 in
theorem search_any (a : Option Addr) (len cap : Nat) (l : List Sh) (t : Sh) (w : World) (h : IsH w a len cap l) (hM : MonoB l t) (hlen : len ≤ 1024) : Calls Tryd.prog 27 #[.slice a len cap, vs t, .func (.func 28) #[] #[]] w fun e w' => e = .returned (.tuple #[.int .i64 (lowN l t), .bool (hasB l t)]) ∧ Below w.heap.size w w' := by
  have HV := hide h
  have HM := hide hM
  have HLN := hide h.1
  have hcap := h.2.1
  have hcm : cap ≤ 9223372036854775807 := h.2.2.1
  have hcm' : (cap : Int) ≤ 9223372036854775807 := by omega
  have HL : Hid (∀ k, k ≤ l.length → (∀ j, j < k → ordS (l.getD j Sh0) t < 0) → (k < l.length → 0 ≤ ordS (l.getD k Sh0) t) → lowN l t = k) := hide (fun k hk h1 h2 => takeWhile_len _ Sh0 l k hk (fun j hj => decide_eq_true (h1 j hj)) (fun h => decide_eq_false (by have := h2 h; omega)))
  have HH : Hid (hasB l t = (decide (lowN l t < l.length) && decide (ordS (l.getD (lowN l t) Sh0) t = 0))) := hide rfl
  generalize hasB l t = hb at *
  generalize lowN l t = lo at *
  have HOD := hide (fun x W => ord_any x t W)
  have HOE : Hid (∀ x, ordS x t = ordS x t) := hide (fun _ => rfl)
  obtain ⟨t1, t2⟩ := t
  have HB : Hid (Below w.heap.size w (w.alloc (.cells #[.int .i64 t1, .int .u8 t2] 55))) := hide ((Below.refl _ w).alloc (Nat.le_refl _) _)
  have HC0 : Hid (ShAt (w.alloc (.cells #[.int .i64 t1, .int .u8 t2] 55)) w.heap.size 0 ⟨t1, t2⟩) := hide ⟨by simp, by simp⟩
  have HZ0 : Hid ((w.alloc (.cells #[.int .i64 t1, .int .u8 t2] 55)).heap.size = w.heap.size + 1) := hide (by simp)
  clear h hM
  go_enter Tryd.func27, Tryd.ntmps27
  go_wp2
  generalize w.alloc (.cells #[.int .i64 t1, .int .u8 t2] 55) = w1 at *
  go_loopw [9, 10] (fun i j wr => ∃ lo hi : Nat, i = .int .i64 lo ∧ j = .int .i64 hi ∧ lo ≤ hi ∧ hi ≤ len ∧ Hid (∀ t', t' < lo → ordS (l.getD t' Sh0) ⟨t1, t2⟩ < 0) ∧ Hid (∀ t', hi ≤ t' → t' < len → 0 ≤ ordS (l.getD t' Sh0) ⟨t1, t2⟩) ∧ Hid (Below (w.heap.size + 1) w1 wr)) (fun i j _ => (intOf j).toNat - (intOf i).toNat)
  case atStart => exact ⟨0, len, by simp, by simp, by omega, by omega, hide (fun t' h => by omega), hide (fun t' h h' => by omega), hide (Below.refl _ _)⟩
  case round =>
    obtain ⟨i, j, rfl, rfl, hij, hj, HA, HZ, HW⟩ := hrel
    by_cases hlt : i < j
    · obtain ⟨m, hm⟩ : ∃ m, m = (i + j) / 2 := ⟨_, rfl⟩
      have hm' : ((i : Int) + (j : Int)) / 2 = (m : Int) := by omega
      have hmj : m < j := by omega
      have him : i ≤ m := by omega
      have hml : m < len := by omega
      have HM' := hide hm
      clear hm
      obtain ⟨bs, off, rfl, hbs, y0⟩ := HV.out.2.2.2.2.1 m (by omega)
      generalize hy : l.getD m Sh0 = y at *
      have HY := hide hy
      clear hy
      obtain ⟨y1, y2⟩ := y
      have HD := hide (HOD.out ⟨y1, y2⟩)
      have HYC := hide y0
      clear y0
      have HS0 : Hid (∀ W : World, Below (w.heap.size + 1) w1 W → (W.cell? ⟨w.heap.size, 0, none⟩ = some (.int .i64 t1) ∧ W.cell? ⟨w.heap.size, 1, none⟩ = some (.int .u8 t2) ∧ W.cell? ⟨bs, off + m * 2, none⟩ = some (.int .i64 y1) ∧ W.cell? ⟨bs, off + m * 2 + 1, none⟩ = some (.int .u8 y2))) := hide (fun W hW => by
        obtain ⟨c1, c2⟩ := HC0.out.below (by omega) hW
        obtain ⟨d1, d2⟩ := HYC.out.below hbs (HB.out.trans (hW.mono (by omega)))
        simp only [Nat.zero_add] at c1 c2
        exact ⟨c1, c2, d1, d2⟩)
      have HWZ := hide (HW.out.size)
      rw [HZ0.out] at HWZ
      generalize hod : ordS ⟨y1, y2⟩ ⟨t1, t2⟩ = od at *
      have HODE := hide hod
      clear hod
      by_cases ho : od < 0
      · go_wp2_with fail
        go_region_held (fun W : World => (W.cell? ⟨w.heap.size, 0, none⟩ = some (.int .i64 t1) ∧ W.cell? ⟨w.heap.size, 1, none⟩ = some (.int .u8 t2) ∧ W.cell? ⟨bs, off + m * 2, none⟩ = some (.int .i64 y1) ∧ W.cell? ⟨bs, off + m * 2 + 1, none⟩ = some (.int .u8 y2))) (first | exact HS0.out _ HW.out | exact HS0.out _ HW.out.drew | exact HS0.out _ (HW.out.drew.trans (HBo.mono HWZ.out))) (first | (go_at_call 28; refine (HD.out _).mono ?_; rintro e w' ⟨rfl, HBo⟩))
        go_wp2
        go_roundw
        case rel => exact ⟨m + 1, j, by simp, by simp, by omega, by omega, hide (fun t' ht => HM.out t' m (by omega) (by rw [HLN.out]; omega) (by rw [HY.out, HODE.out]; exact ho)), HZ, hide (HW.out.drew.trans (HBo.mono HWZ.out))⟩
        case measure => simp [intOf]; omega
      · go_wp2_with fail
        go_region_held (fun W : World => (W.cell? ⟨w.heap.size, 0, none⟩ = some (.int .i64 t1) ∧ W.cell? ⟨w.heap.size, 1, none⟩ = some (.int .u8 t2) ∧ W.cell? ⟨bs, off + m * 2, none⟩ = some (.int .i64 y1) ∧ W.cell? ⟨bs, off + m * 2 + 1, none⟩ = some (.int .u8 y2))) (first | exact HS0.out _ HW.out | exact HS0.out _ HW.out.drew | exact HS0.out _ (HW.out.drew.trans (HBo.mono HWZ.out))) (first | (go_at_call 28; refine (HD.out _).mono ?_; rintro e w' ⟨rfl, HBo⟩))
        go_wp2
        go_roundw
        case rel => exact ⟨i, m, by simp, by simp, by omega, by omega, HA, hide (fun t' ht ht' => Int.not_lt.1 fun hn => by have := HM.out m t' ht (by rw [HLN.out]; omega) hn; rw [HY.out, HODE.out] at this; omega), hide (HW.out.drew.trans (HBo.mono HWZ.out))⟩
        case measure => simp [intOf]; omega
    · obtain rfl : i = j := by omega
      have HE := hide (HL.out i (by rw [HLN.out]; omega) HA.out (fun h => HZ.out i (by omega) (by rw [HLN.out] at h; exact h)))
      clear hlt
      by_cases hi : i < len
      · obtain ⟨bs, off, rfl, hbs, y0⟩ := HV.out.2.2.2.2.1 i (by omega)
        generalize hy : l.getD i Sh0 = y at *
        have HY := hide hy
        clear hy
        obtain ⟨y1, y2⟩ := y
        have HD := hide (HOD.out ⟨y1, y2⟩)
        have HYC := hide y0
        clear y0
        have HS0 : Hid (∀ W : World, Below (w.heap.size + 1) w1 W → (W.cell? ⟨w.heap.size, 0, none⟩ = some (.int .i64 t1) ∧ W.cell? ⟨w.heap.size, 1, none⟩ = some (.int .u8 t2) ∧ W.cell? ⟨bs, off + i * 2, none⟩ = some (.int .i64 y1) ∧ W.cell? ⟨bs, off + i * 2 + 1, none⟩ = some (.int .u8 y2))) := hide (fun W hW => by
          obtain ⟨c1, c2⟩ := HC0.out.below (by omega) hW
          obtain ⟨d1, d2⟩ := HYC.out.below hbs (HB.out.trans (hW.mono (by omega)))
          simp only [Nat.zero_add] at c1 c2
          exact ⟨c1, c2, d1, d2⟩)
        have HWZ := hide (HW.out.size)
        rw [HZ0.out] at HWZ
        generalize hod : ordS ⟨y1, y2⟩ ⟨t1, t2⟩ = od at *
        have HODE := hide hod
        clear hod
        have HHE : Hid (hb = decide (od = 0)) := hide (by rw [HH.out, HE.out, HLN.out, HY.out, HODE.out]; simp [hi])
        by_cases ho : od = 0
        · subst ho
          go_wp2_with fail
          go_region_held (fun W : World => (W.cell? ⟨w.heap.size, 0, none⟩ = some (.int .i64 t1) ∧ W.cell? ⟨w.heap.size, 1, none⟩ = some (.int .u8 t2) ∧ W.cell? ⟨bs, off + i * 2, none⟩ = some (.int .i64 y1) ∧ W.cell? ⟨bs, off + i * 2 + 1, none⟩ = some (.int .u8 y2))) (first | exact HS0.out _ HW.out | exact HS0.out _ HW.out.drew | exact HS0.out _ (HW.out.drew.trans (HBo.mono HWZ.out))) (first | (go_at_call 28; refine (HD.out _).mono ?_; rintro e w' ⟨rfl, HBo⟩))
          go_wp2
          go_ret2
          exact ⟨by rw [HHE.out, HE.out]; simp, HB.out.trans ((HW.out.drew.trans (HBo.mono HWZ.out)).mono (by omega))⟩
        · go_wp2_with fail
          go_region_held (fun W : World => (W.cell? ⟨w.heap.size, 0, none⟩ = some (.int .i64 t1) ∧ W.cell? ⟨w.heap.size, 1, none⟩ = some (.int .u8 t2) ∧ W.cell? ⟨bs, off + i * 2, none⟩ = some (.int .i64 y1) ∧ W.cell? ⟨bs, off + i * 2 + 1, none⟩ = some (.int .u8 y2))) (first | exact HS0.out _ HW.out | exact HS0.out _ HW.out.drew | exact HS0.out _ (HW.out.drew.trans (HBo.mono HWZ.out))) (first | (go_at_call 28; refine (HD.out _).mono ?_; rintro e w' ⟨rfl, HBo⟩))
          go_wp2
          go_ret2
          exact ⟨by rw [HHE.out, HE.out]; simp [ho], HB.out.trans ((HW.out.drew.trans (HBo.mono HWZ.out)).mono (by omega))⟩
      · have HHE : Hid (hb = false) := hide (by rw [HH.out, HE.out, HLN.out]; simp [hi])
        have hin : ¬ (i : Int) < (len : Int) := by omega
        go_wp2_with fail
        refine wp_region_held_drew (S := fun _ : World => True) (by kernel_rfl) ?hSa (fun hHeld => ?_)
        case hSa => exact trivial
        refine hTake (i := 0) (v := ?v0a) (some 35) rfl rfl (by kernel_rfl) (by kernel_rfl) (by kernel_rfl) (fun _ _ _ h => h) (by rfl) (by assumption) ?hy0a ?hn0a
        case hy0a => (intro w hSw; (try dsimp only at hSw); skip; go_simp; try with_reducible rfl)
        try simp only [Act.put, List.setIfInBounds_toArray, List.set_cons_zero, List.set_cons_succ]
        refine hTake (i := 1) (v := ?v1a) (some 36) rfl rfl (by kernel_rfl) (by kernel_rfl) (by kernel_rfl) (fun _ _ _ h => h) (by rfl) (by assumption) ?hy1a ?hn1a
        case hy1a => (intro w hSw; (try dsimp only at hSw); skip; go_simp; try with_reducible rfl)
        try simp only [Act.put, List.setIfInBounds_toArray, List.set_cons_zero, List.set_cons_succ]
        refine hTake (i := 2) (v := ?v2a) (some 37) rfl rfl (by kernel_rfl) (by kernel_rfl) (by kernel_rfl) (fun _ _ _ h => h) (by rfl) (by assumption) ?hy2a ?hn2a
        case hy2a => (intro w hSw; (try dsimp only at hSw); skip; go_simp; try with_reducible rfl)
        try simp only [Act.put, List.setIfInBounds_toArray, List.set_cons_zero, List.set_cons_succ]
        refine hTake (i := 3) (v := ?v3a) (some 38) rfl rfl (by kernel_rfl) (by kernel_rfl) (by kernel_rfl) (fun _ _ _ h => h) (by rfl) (by assumption) ?hy3a ?hn3a
        case hy3a => (intro w hSw; (try dsimp only at hSw); skip; go_simp; try with_reducible rfl)
        try simp only [Act.put, List.setIfInBounds_toArray, List.set_cons_zero, List.set_cons_succ]
        refine hTake (i := 4) (v := ?v4a) (some 39) rfl rfl (by kernel_rfl) (by kernel_rfl) (by kernel_rfl) (fun _ _ _ h => h) (by rfl) (by assumption) ?hy4a ?hn4a
        case hy4a => (intro w hSw; (try dsimp only at hSw); skip; go_simp; try with_reducible rfl)
        try simp only [Act.put, List.setIfInBounds_toArray, List.set_cons_zero, List.set_cons_succ]
        refine hSkip (i := 5) (some 40) rfl rfl (by kernel_rfl) (by kernel_rfl) (by kernel_rfl) (fun _ _ _ h => h) (by rfl) (by assumption) ?_
        try simp only [Act.put, List.setIfInBounds_toArray, List.set_cons_zero, List.set_cons_succ]
        refine hSkip (i := 6) (some 41) rfl rfl (by kernel_rfl) (by kernel_rfl) (by kernel_rfl) (fun _ _ _ h => h) (by rfl) (by assumption) ?_
        try simp only [Act.put, List.setIfInBounds_toArray, List.set_cons_zero, List.set_cons_succ]
        refine hSkip (i := 7) (some 42) rfl rfl (by kernel_rfl) (by kernel_rfl) (by kernel_rfl) (fun _ _ _ h => h) (by rfl) (by assumption) ?_
        try simp only [Act.put, List.setIfInBounds_toArray, List.set_cons_zero, List.set_cons_succ]
        refine hSkip (i := 8) (some 43) rfl rfl (by kernel_rfl) (by kernel_rfl) (by kernel_rfl) (fun _ _ _ h => h) (by rfl) (by assumption) ?_
        try simp only [Act.put, List.setIfInBounds_toArray, List.set_cons_zero, List.set_cons_succ]
        refine hSkip (i := 9) (some 44) rfl rfl (by kernel_rfl) (by kernel_rfl) (by kernel_rfl) (fun _ _ _ h => h) (by rfl) (by assumption) ?_
        try simp only [Act.put, List.setIfInBounds_toArray, List.set_cons_zero, List.set_cons_succ]
        refine hSkip (i := 10) (some 45) rfl rfl (by kernel_rfl) (by kernel_rfl) (by kernel_rfl) (fun _ _ _ h => h) (by rfl) (by assumption) ?_
        try simp only [Act.put, List.setIfInBounds_toArray, List.set_cons_zero, List.set_cons_succ]
        refine hSkip (i := 11) (some 46) rfl rfl (by kernel_rfl) (by kernel_rfl) (by kernel_rfl) (fun _ _ _ h => h) (by rfl) (by assumption) ?_
        try simp only [Act.put, List.setIfInBounds_toArray, List.set_cons_zero, List.set_cons_succ]
        refine hSkip (i := 12) (some 47) rfl rfl (by kernel_rfl) (by kernel_rfl) (by kernel_rfl) (fun _ _ _ h => h) (by rfl) (by assumption) ?_
        try simp only [Act.put, List.setIfInBounds_toArray, List.set_cons_zero, List.set_cons_succ]
        refine hTake (i := 13) (v := ?v13a) (some 48) rfl rfl (by kernel_rfl) (by kernel_rfl) (by kernel_rfl) (fun _ _ _ h => h) (by rfl) (by assumption) ?hy13a ?hn13a
        case hy13a => (intro w hSw; (try dsimp only at hSw); skip; go_simp; try with_reducible rfl)
        try simp only [Act.put, List.setIfInBounds_toArray, List.set_cons_zero, List.set_cons_succ]
        refine hTake (i := 14) (v := ?v14a) (some 6) rfl rfl (by kernel_rfl) (by kernel_rfl) (by kernel_rfl) (fun _ _ _ h => h) (by rfl) (by assumption) ?hy14a ?hn14a
        case hy14a => (intro w hSw; (try dsimp only at hSw); skip; go_simp; try with_reducible rfl)
        try simp only [Act.put, List.setIfInBounds_toArray, List.set_cons_zero, List.set_cons_succ]
        refine hTake (i := 15) (v := ?v15a) (some 7) rfl rfl (by kernel_rfl) (by kernel_rfl) (by kernel_rfl) (fun _ _ _ h => h) (by rfl) (by assumption) ?hy15a ?hn15a
        case hy15a => (intro w hSw; (try dsimp only at hSw); skip; go_simp; try with_reducible rfl)
        try simp only [Act.put, List.setIfInBounds_toArray, List.set_cons_zero, List.set_cons_succ]
        refine wpAnyH_done (by kernel_rfl) ?_ _
        go_wp2
        go_ret2
        exact ⟨by rw [HHE.out, HE.out]; rfl, HB.out.trans (HW.out.drew.mono (by omega))⟩
end Go.Proofs.YtfbfmhfceemkgaaDoor
