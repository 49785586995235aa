/- a place, a sum, Check -/
import Derived.Test.YtffhkljegopjmaaDoorKB
namespace Go.Proofs.YtffhkljegopjmaaDoor
open Go.RowKit
set_option maxRecDepth 40000
theorem hTake {P : Program} {ops : Array Oper} {Q : Exit → Act → World → Prop} {md : Region.Mode} {S : World → Prop} {i : Nat} {oi : Oper} {v : Value} {fuel : Nat} {listed : Array Bool} {a : Act} {w : World} (d : Option Tmp) (hi : ops[i]? = some oi) (hd : oi.dst = d)
    (hs : Region.noSelect ops = true) (hf : Region.free md ops listed i = true) (hr : (Region.ready md ops listed).contains i = true) (hQ : ∀ c a w, Q (.panic c) (a.put d v) w → Q (.panic c) a w)
    (hwt : Region.wanted oi (yielded ops a.tmps) = true) (hS : S w) (hy : ∀ w, S w → (execOp a.eval oi).run P w = .ok (.value v) w)
    (h : wpAnyH P md ops Q S fuel (listed.setIfInBounds i true) (a.put d v) w) : wpAnyH P md ops Q S (fuel + 1) listed a w := by
  subst hd
  exact wpAnyH_take hi hs hf hr hQ (.inl ⟨hwt, hy⟩) hS h
theorem hSkip {P : Program} {ops : Array Oper} {Q : Exit → Act → World → Prop} {md : Region.Mode} {S : World → Prop} {i : Nat} {oi : Oper} {fuel : Nat} {listed : Array Bool} {a : Act} {w : World} (d : Option Tmp) (hi : ops[i]? = some oi) (hd : oi.dst = d)
    (hs : Region.noSelect ops = true) (hf : Region.free md ops listed i = true) (hr : (Region.ready md ops listed).contains i = true) (hQ : ∀ c a w, Q (.panic c) (a.put d undef) w → Q (.panic c) a w)
    (hwt : Region.wanted oi (yielded ops a.tmps) = false) (hS : S w)
    (h : wpAnyH P md ops Q S fuel (listed.setIfInBounds i true) (a.put d undef) w) : wpAnyH P md ops Q S (fuel + 1) listed a w := by
  subst hd
  exact wpAnyH_take hi hs hf hr hQ (.inr ⟨hwt, rfl⟩) hS h
theorem hOne {P : Program} {ops : Array Oper} {Q : Exit → Act → World → Prop} {md : Region.Mode} {S : World → Prop} {i : Nat} {o : Oper} {fuel : Nat} {listed : Array Bool} {a : Act} {w : World} (ho : ops[i]? = some o) (hr : Region.ready md ops listed = [i])
    (h : ∀ K' : Act → World → Prop, Shut (∀ a w, S w → (S w → wpAnyH P md ops Q S fuel (listed.setIfInBounds i true) a w) → K' a w) → if Region.wanted o (yielded ops a.tmps) = true then Oper.wp P o a w K' Q else K' (a.put o.dst undef) w) : wpAnyH P md ops Q S (fuel + 1) listed a w :=
  wpAnyH_ready hr (by simp) (AllReadyH.cons ho h AllReadyH.nil)
def placeB (i j : Int) : Bool := decide (1 ≤ i ∧ i ≤ 1024 ∧ 1 ≤ j ∧ j ≤ 1024)
theorem place_any (i j : Int) (w : World) : Calls Tryd.prog 19 #[.int .i64 i, .int .i64 j] w fun e w' => e = .returned (.bool (placeB i j)) ∧ w' = w := by
  have HT : Hid (placeB i j = decide (1 ≤ i ∧ i ≤ 1024 ∧ 1 ≤ j ∧ j ≤ 1024)) := hide rfl
  generalize placeB i j = b at *
  go_enter Tryd.func19, Tryd.ntmps19
  go_wp2
  all_goals go_ret
  all_goals exact ⟨ret_bool (by rw [HT.out, Bool.eq_iff_iff]; simp; omega), rfl⟩
def partB (n : Int) : Bool := decide (0 ≤ n ∧ n ≤ 1125899906842624)
def sumB (x : Cl) : Bool := partB x.fr && partB x.he && partB x.ou && decide (x.al ≤ 1125899906842624 ∧ x.al = x.fr + x.he + x.ou)
theorem wrap64 {n : Int} (h : -9223372036854775808 ≤ n) (h' : n ≤ 9223372036854775807) : IntKind.i64.wrap n = n := by
  simp [IntKind.wrap_i64]; omega
theorem sum_any (x : Cl) (w : World) : Calls Tryd.prog 20 #[vc x] w fun e w' => e = .returned (.bool (sumB x)) ∧ Below w.heap.size w w' := by
  have HT : Hid (sumB x = (partB x.fr && partB x.he && partB x.ou && decide (x.al ≤ 1125899906842624 ∧ x.al = x.fr + x.he + x.ou))) := hide rfl
  generalize sumB x = r at *
  obtain ⟨x1, x2, x3, x4, x5, x6⟩ := x
  simp only at HT
  have HS : Hid (∀ w1, w1 = (w.alloc (.cells #[.int .i64 x1, .int .i64 x2, .int .i64 x3, .int .i64 x4, .int .i64 x5, .int .i64 x6] 43)).alloc (.cells #[.int .i64 x3, .int .i64 x4, .int .i64 x5] 2) → Below w.heap.size w w1 ∧ CellAt w1 w.heap.size 0 ⟨x1, x2, x3, x4, x5, x6⟩ ∧ (w1.cell? ⟨w.heap.size + 1, 0, none⟩ = some (.int .i64 x3) ∧ w1.cell? ⟨w.heap.size + 1, 1, none⟩ = some (.int .i64 x4) ∧ w1.cell? ⟨w.heap.size + 1, 2, none⟩ = some (.int .i64 x5))) := hide (by
    rintro w1 rfl
    refine ⟨((Below.refl _ w).alloc (Nat.le_refl _) _).alloc (by simp) _, ⟨?_, ?_, ?_, ?_, ?_, ?_⟩, ?_, ?_, ?_⟩ <;> simp)
  go_enter Tryd.func20, Tryd.ntmps20
  go_wp2
  generalize hw1 : (w.alloc (.cells #[.int .i64 x1, .int .i64 x2, .int .i64 x3, .int .i64 x4, .int .i64 x5, .int .i64 x6] 43)).alloc (.cells #[.int .i64 x3, .int .i64 x4, .int .i64 x5] 2) = w1
  obtain ⟨hB, hc, hs⟩ := HS.out w1 hw1.symm
  have HB := hide hB
  have HC := hide hc
  have HQ := hide hs
  clear hB hc hs hw1 HS
  go_loopw [13] (fun i wr => ∃ k : Nat, k ≤ 3 ∧ i = .int .i64 k ∧ Hid ((0 < k → partB x3 = true) ∧ (1 < k → partB x4 = true) ∧ (2 < k → partB x5 = true)) ∧ wr = w1) (fun i _ => 3 - (intOf i).toNat)
  case atStart => exact ⟨0, by omega, rfl, hide (⟨fun h => by omega, fun h => by omega, fun h => by omega⟩), rfl⟩
  case round =>
    obtain ⟨k, hk, rfl, HA, rfl⟩ := hrel
    rcases (by omega : k = 0 ∨ k = 1 ∨ k = 2 ∨ k = 3) with rfl | rfl | rfl | rfl
    · have h0 := HQ.out.1
      by_cases hx : 0 ≤ x3 ∧ x3 ≤ 1125899906842624
      · obtain ⟨ha, hb⟩ := hx
        go_wp2
        go_roundw
        case rel => exact ⟨1, by omega, by simp, hide ⟨fun _ => by simp [partB]; omega, fun h => by omega, fun h => by omega⟩, by trivial⟩
        case measure => simp [intOf]
      · have HX := hide (show partB x3 = false by simp [partB]; omega)
        by_cases h1 : x3 < 0
        all_goals go_wp2
        all_goals first | omega | skip
        all_goals go_ret
        all_goals exact ⟨ret_bool (by rw [HT.out, HX.out]; simp), HB.out⟩
    · have h0 := HQ.out.2.1
      by_cases hx : 0 ≤ x4 ∧ x4 ≤ 1125899906842624
      · obtain ⟨ha, hb⟩ := hx
        go_wp2
        go_roundw
        case rel => exact ⟨2, by omega, by simp, hide ⟨fun _ => HA.out.1 (by omega), fun _ => by simp [partB]; omega, fun h => by omega⟩, by trivial⟩
        case measure => simp [intOf]
      · have HX := hide (show partB x4 = false by simp [partB]; omega)
        by_cases h1 : x4 < 0
        all_goals go_wp2
        all_goals first | omega | skip
        all_goals go_ret
        all_goals exact ⟨ret_bool (by rw [HT.out, HX.out]; simp), HB.out⟩
    · have h0 := HQ.out.2.2
      by_cases hx : 0 ≤ x5 ∧ x5 ≤ 1125899906842624
      · obtain ⟨ha, hb⟩ := hx
        go_wp2
        go_roundw
        case rel => exact ⟨3, by omega, by simp, hide ⟨fun _ => HA.out.1 (by omega), fun _ => HA.out.2.1 (by omega), fun _ => by simp [partB]; omega⟩, by trivial⟩
        case measure => simp [intOf]
      · have HX := hide (show partB x5 = false by simp [partB]; omega)
        by_cases h1 : x5 < 0
        all_goals go_wp2
        all_goals first | omega | skip
        all_goals go_ret
        all_goals exact ⟨ret_bool (by rw [HT.out, HX.out]; simp), HB.out⟩
    · have hp3 := HA.out.1 (by omega)
      have hp4 := HA.out.2.1 (by omega)
      have hp5 := HA.out.2.2 (by omega)
      have HP := hide (show partB x3 = true ∧ partB x4 = true ∧ partB x5 = true from ⟨hp3, hp4, hp5⟩)
      simp only [partB, decide_eq_true_eq] at hp3 hp4 hp5
      obtain ⟨hc1, hc2, hc3, hc4, hc5, hc6⟩ := HC.out
      have hw1 : IntKind.i64.wrap (x3 + x4) = x3 + x4 := wrap64 (by omega) (by omega)
      have hw2 : IntKind.i64.wrap (x3 + x4 + x5) = x3 + x4 + x5 := wrap64 (by omega) (by omega)
      clear hp3 hp4 hp5
      by_cases hz : x6 ≤ 1125899906842624
      · by_cases hy : x6 = x3 + x4 + x5
        · have HY := hide (show decide (x6 ≤ 1125899906842624 ∧ x6 = x3 + x4 + x5) = true from decide_eq_true ⟨hz, hy⟩)
          go_wp2
          go_ret
          exact ⟨ret_bool (by rw [HT.out, HP.out.1, HP.out.2.1, HP.out.2.2, HY.out]; first | rfl | simp), HB.out⟩
        · have HY := hide (show decide (x6 ≤ 1125899906842624 ∧ x6 = x3 + x4 + x5) = false from decide_eq_false fun h => hy h.2)
          go_wp2
          go_ret
          exact ⟨ret_bool (by rw [HT.out, HP.out.1, HP.out.2.1, HP.out.2.2, HY.out]; first | rfl | simp [hy]), HB.out⟩
      · have HY := hide (show decide (x6 ≤ 1125899906842624 ∧ x6 = x3 + x4 + x5) = false from decide_eq_false fun h => hz h.1)
        go_wp2
        go_ret
        exact ⟨ret_bool (by rw [HT.out, HP.out.1, HP.out.2.1, HP.out.2.2, HY.out]; first | rfl | simp [hz]), HB.out⟩
def okAt (l : List Cl) (i : Nat) : Bool := (decide (i = 0) || decide (ordC (l.getD (i - 1) Cl0) (l.getD i Cl0) < 0)) && (placeB (l.getD i Cl0).it (l.getD i Cl0).wa && sumB (l.getD i Cl0))
def goodB (l : List Cl) : Bool := decide (l.length ≤ 4096) && (List.range l.length).all (okAt l)
def checkE (l : List Cl) : Int := if goodB l = true then 0 else 9
set_option maxHeartbeats 2000000 in
theorem check_any (a : Option Addr) (len cap : Nat) (l : List Cl) (w : World) (h : IsC w a len cap l) : Calls Tryd.prog 5 #[.slice a len cap] w fun e w' => e = .returned (.int .i64 (checkE l)) ∧ Below w.heap.size w w' := by
  have HV := hide h
  have HLN := hide h.1
  have hcap := h.2.1
  have hcm : cap ≤ 9223372036854775807 := h.2.2.1
  have HT : Hid (checkE l = if goodB l = true then 0 else 9) := hide rfl
  generalize checkE l = r at *
  have HG : Hid (goodB l = (decide (l.length ≤ 4096) && (List.range l.length).all (okAt l))) := hide rfl
  have HB := hide (Below.refl w.heap.size w)
  have hcm' : (cap : Int) ≤ 9223372036854775807 := by omega
  clear h
  by_cases hbig : 4096 < len
  · go_enter Tryd.func5, Tryd.ntmps5
    go_wp2
    go_ret
    exact ⟨ret_int (by rw [HT.out, HG.out, HLN.out]; simp; omega), HB.out⟩
  go_enter Tryd.func5, Tryd.ntmps5
  go_wp2
  go_loopw [11] (fun i wr => ∃ k : Nat, k ≤ len ∧ i = .int .i64 k ∧ Hid (∀ j, j < k → okAt l j = true) ∧ Hid (Below w.heap.size w wr)) (fun i _ => len - (intOf i).toNat)
  case atStart => exact ⟨0, by omega, rfl, hide (fun j h => by omega), HB⟩
  case round =>
    obtain ⟨k, hk, rfl, HA, HW⟩ := hrel
    by_cases hlt : k < len
    · obtain ⟨bs, off, rfl, hbs, z0⟩ := (HV.out.below' HW.out).2.2.2.2.1 k hlt
      generalize hx : l.getD k Cl0 = x at *
      have HX := hide hx
      clear hx
      obtain ⟨x1, x2, x3, x4, x5, x6⟩ := x
      obtain ⟨z1, z2, z3, z4, z5, z6⟩ := z0
      simp only at z1 z2 z3 z4 z5 z6
      have hc : ∀ W : World, (∀ j, W.cell? ⟨wr.heap.size, j, none⟩ = (wr.alloc (.cells #[.int .i64 x1, .int .i64 x2, .int .i64 x3, .int .i64 x4, .int .i64 x5, .int .i64 x6] 43)).cell? ⟨wr.heap.size, j, none⟩) → CellAt W wr.heap.size 0 ⟨x1, x2, x3, x4, x5, x6⟩ := fun W hW => ⟨(hW _).trans (by simp), (hW _).trans (by simp), (hW _).trans (by simp), (hW _).trans (by simp), (hW _).trans (by simp), (hW _).trans (by simp)⟩
      have HCN := hide hc
      clear hc
      have HW1 : Hid (Below w.heap.size w (wr.alloc (.cells #[.int .i64 x1, .int .i64 x2, .int .i64 x3, .int .i64 x4, .int .i64 x5, .int .i64 x6] 43))) := hide (HW.out.alloc HW.out.size _)
      have HPL := hide (fun W => place_any x1 x2 W)
      have HSM := hide (fun W => sum_any ⟨x1, x2, x3, x4, x5, x6⟩ W)
      have HQ : Hid (okAt l k = ((decide (k = 0) || decide (ordC (l.getD (k - 1) Cl0) ⟨x1, x2, x3, x4, x5, x6⟩ < 0)) && (placeB x1 x2 && sumB ⟨x1, x2, x3, x4, x5, x6⟩))) := hide (by unfold okAt; rw [HX.out])
      generalize placeB x1 x2 = pl at *
      generalize sumB ⟨x1, x2, x3, x4, x5, x6⟩ = sm at *
      have FAIL : Hid (okAt l k = false → (9 : Int) = r) := hide (fun h => by
        rw [HT.out, if_neg]
        rw [HG.out, HLN.out, Bool.and_eq_true]
        rintro ⟨-, h2⟩
        rw [List.all_eq_true.1 h2 k (List.mem_range.2 hlt)] at h
        cases h)
      have STEP : Hid (okAt l k = true → ∀ j, j < k + 1 → okAt l j = true) := hide (fun h j hj => by
        rcases Nat.lt_succ_iff_lt_or_eq.1 hj with h1 | h1
        · exact HA.out j h1
        · rw [h1]; exact h)
      by_cases hk0 : k = 0
      · subst hk0
        simp only [Nat.zero_mul, Nat.add_zero] at z1 z2 z3 z4 z5 z6
        go_wp2_with fail
        refine wp_region_held_drew (S := fun _ : World => True) (by kernel_rfl) ?hSa (fun hHeld => ?_)
        case hSa => exact trivial
        refine hTake (i := 0) (v := ?v0a) (some 16) rfl rfl (by kernel_rfl) (by kernel_rfl) (by kernel_rfl) (fun _ _ _ h => h) (by rfl) (by assumption) ?hy0a ?hn0a
        case hy0a => (intro w hSw; (try dsimp only at hSw); skip; go_simp; try with_reducible rfl)
        try simp only [Act.put, List.setIfInBounds_toArray, List.set_cons_zero, List.set_cons_succ]
        refine hTake (i := 1) (v := ?v1a) (some 17) rfl rfl (by kernel_rfl) (by kernel_rfl) (by kernel_rfl) (fun _ _ _ h => h) (by rfl) (by assumption) ?hy1a ?hn1a
        case hy1a => (intro w hSw; (try dsimp only at hSw); skip; go_simp; try with_reducible rfl)
        try simp only [Act.put, List.setIfInBounds_toArray, List.set_cons_zero, List.set_cons_succ]
        refine hTake (i := 2) (v := ?v2a) (some 18) rfl rfl (by kernel_rfl) (by kernel_rfl) (by kernel_rfl) (fun _ _ _ h => h) (by rfl) (by assumption) ?hy2a ?hn2a
        case hy2a => (intro w hSw; (try dsimp only at hSw); skip; go_simp; try with_reducible rfl)
        try simp only [Act.put, List.setIfInBounds_toArray, List.set_cons_zero, List.set_cons_succ]
        refine hSkip (i := 3) (some 19) rfl rfl (by kernel_rfl) (by kernel_rfl) (by kernel_rfl) (fun _ _ _ h => h) (by rfl) (by assumption) ?_
        try simp only [Act.put, List.setIfInBounds_toArray, List.set_cons_zero, List.set_cons_succ]
        refine hSkip (i := 4) (some 20) rfl rfl (by kernel_rfl) (by kernel_rfl) (by kernel_rfl) (fun _ _ _ h => h) (by rfl) (by assumption) ?_
        try simp only [Act.put, List.setIfInBounds_toArray, List.set_cons_zero, List.set_cons_succ]
        refine hSkip (i := 5) (some 21) rfl rfl (by kernel_rfl) (by kernel_rfl) (by kernel_rfl) (fun _ _ _ h => h) (by rfl) (by assumption) ?_
        try simp only [Act.put, List.setIfInBounds_toArray, List.set_cons_zero, List.set_cons_succ]
        refine hSkip (i := 6) (some 22) rfl rfl (by kernel_rfl) (by kernel_rfl) (by kernel_rfl) (fun _ _ _ h => h) (by rfl) (by assumption) ?_
        try simp only [Act.put, List.setIfInBounds_toArray, List.set_cons_zero, List.set_cons_succ]
        refine hSkip (i := 7) (some 23) rfl rfl (by kernel_rfl) (by kernel_rfl) (by kernel_rfl) (fun _ _ _ h => h) (by rfl) (by assumption) ?_
        try simp only [Act.put, List.setIfInBounds_toArray, List.set_cons_zero, List.set_cons_succ]
        refine hSkip (i := 8) (some 24) rfl rfl (by kernel_rfl) (by kernel_rfl) (by kernel_rfl) (fun _ _ _ h => h) (by rfl) (by assumption) ?_
        try simp only [Act.put, List.setIfInBounds_toArray, List.set_cons_zero, List.set_cons_succ]
        refine hSkip (i := 9) (some 25) rfl rfl (by kernel_rfl) (by kernel_rfl) (by kernel_rfl) (fun _ _ _ h => h) (by rfl) (by assumption) ?_
        try simp only [Act.put, List.setIfInBounds_toArray, List.set_cons_zero, List.set_cons_succ]
        refine hSkip (i := 10) (some 26) rfl rfl (by kernel_rfl) (by kernel_rfl) (by kernel_rfl) (fun _ _ _ h => h) (by rfl) (by assumption) ?_
        try simp only [Act.put, List.setIfInBounds_toArray, List.set_cons_zero, List.set_cons_succ]
        refine hTake (i := 11) (v := ?v11a) (some 27) rfl rfl (by kernel_rfl) (by kernel_rfl) (by kernel_rfl) (fun _ _ _ h => h) (by rfl) (by assumption) ?hy11a ?hn11a
        case hy11a => (intro w hSw; (try dsimp only at hSw); skip; go_simp; try with_reducible rfl)
        try simp only [Act.put, List.setIfInBounds_toArray, List.set_cons_zero, List.set_cons_succ]
        refine hTake (i := 12) (v := ?v12a) (some 5) rfl rfl (by kernel_rfl) (by kernel_rfl) (by kernel_rfl) (fun _ _ _ h => h) (by rfl) (by assumption) ?hy12a ?hn12a
        case hy12a => (intro w hSw; (try dsimp only at hSw); skip; go_simp; try with_reducible rfl)
        try simp only [Act.put, List.setIfInBounds_toArray, List.set_cons_zero, List.set_cons_succ]
        refine wpAnyH_done (by kernel_rfl) ?_ _
        generalize hW : (wr.alloc (.cells #[.int .i64 x1, .int .i64 x2, .int .i64 x3, .int .i64 x4, .int .i64 x5, .int .i64 x6] 43)).drew = W
        have HBW : Hid (Below w.heap.size w W) := hide (hW ▸ HW1.out.drew)
        have HCW := hide (HCN.out W (fun j => by rw [← hW]; rfl))
        clear hW
        obtain ⟨c1, c2, c3, c4, c5, c6⟩ := HCW.out
        simp only [Nat.zero_add] at c1 c2 c3 c4 c5 c6
        cases pl
        · go_wp2_with (first | (go_at_call 19; refine (HPL.out _).mono ?_; rintro e w' ⟨rfl, rfl⟩) | (go_at_call 20; refine (HSM.out _).mono ?_; rintro e w' ⟨rfl, HBs⟩))
          go_ret
          exact ⟨ret_int (FAIL.out (by rw [HQ.out]; simp)), HBW.out⟩
        cases sm
        · go_wp2_with (first | (go_at_call 19; refine (HPL.out _).mono ?_; rintro e w' ⟨rfl, rfl⟩) | (go_at_call 20; refine (HSM.out _).mono ?_; rintro e w' ⟨rfl, HBs⟩))
          go_ret
          exact ⟨ret_int (FAIL.out (by rw [HQ.out]; simp)), HBW.out.trans (HBs.mono HBW.out.size)⟩
        · go_wp2_with (first | (go_at_call 19; refine (HPL.out _).mono ?_; rintro e w' ⟨rfl, rfl⟩) | (go_at_call 20; refine (HSM.out _).mono ?_; rintro e w' ⟨rfl, HBs⟩))
          go_roundw
          case rel => exact ⟨0 + 1, by omega, by simp, hide (STEP.out (by rw [HQ.out]; simp)), hide (HBW.out.trans (HBs.mono HBW.out.size))⟩
          case measure => simp [intOf]; omega
      · obtain ⟨p, rfl⟩ : ∃ p, k = p + 1 := ⟨k - 1, by omega⟩
        clear hk0
        obtain ⟨bs', off', eq', hbs', y0⟩ := (HV.out.below' HW.out).2.2.2.2.1 p (by omega)
        cases eq'
        simp only [Nat.add_sub_cancel] at HQ
        generalize l.getD p Cl0 = y at *
        obtain ⟨y1, y2, y3, y4, y5, y6⟩ := y
        have HOD := hide (fun W => ord_any ⟨y1, y2, y3, y4, y5, y6⟩ ⟨x1, x2, x3, x4, x5, x6⟩ W)
        generalize ordC ⟨y1, y2, y3, y4, y5, y6⟩ ⟨x1, x2, x3, x4, x5, x6⟩ = od at *
        have HYC := hide y0
        clear y0
        have HS0 : Hid (∀ W : World, (∀ b j, b < wr.heap.size + 1 → W.cell? ⟨b, j, none⟩ = (wr.alloc (.cells #[.int .i64 x1, .int .i64 x2, .int .i64 x3, .int .i64 x4, .int .i64 x5, .int .i64 x6] 43)).cell? ⟨b, j, none⟩) → (W.cell? ⟨wr.heap.size, 0, none⟩ = some (.int .i64 x1) ∧ W.cell? ⟨wr.heap.size, 1, none⟩ = some (.int .i64 x2) ∧ W.cell? ⟨wr.heap.size, 2, none⟩ = some (.int .i64 x3) ∧ W.cell? ⟨wr.heap.size, 3, none⟩ = some (.int .i64 x4) ∧ W.cell? ⟨wr.heap.size, 4, none⟩ = some (.int .i64 x5) ∧ W.cell? ⟨wr.heap.size, 5, none⟩ = some (.int .i64 x6) ∧ W.cell? ⟨bs, off + p * 6, none⟩ = some (.int .i64 y1) ∧ W.cell? ⟨bs, off + p * 6 + 1, none⟩ = some (.int .i64 y2) ∧ W.cell? ⟨bs, off + p * 6 + 2, none⟩ = some (.int .i64 y3) ∧ W.cell? ⟨bs, off + p * 6 + 3, none⟩ = some (.int .i64 y4) ∧ W.cell? ⟨bs, off + p * 6 + 4, none⟩ = some (.int .i64 y5) ∧ W.cell? ⟨bs, off + p * 6 + 5, none⟩ = some (.int .i64 y6))) := hide (fun W hW => by
          obtain ⟨c1, c2, c3, c4, c5, c6⟩ := HCN.out W (fun j => hW _ j (by omega))
          obtain ⟨d1, d2, d3, d4, d5, d6⟩ := HYC.out.block (w' := W) (fun j => (hW bs j (by omega)).trans (World.cell?_alloc_past _ _ _ hbs))
          simp only [Nat.zero_add] at c1 c2 c3 c4 c5 c6
          exact ⟨c1, c2, c3, c4, c5, c6, d1, d2, d3, d4, d5, d6⟩)
        have hwp : IntKind.i64.wrap ((p : Int) + 1 - 1) = (p : Int) := by rw [wrap64 (by omega) (by omega)]; omega
        have hple : (p : Int) < len := by omega
        have hplN : p < len := by omega
        have hwp2 : IntKind.i64.wrap (p : Int) = (p : Int) := wrap64 (by omega) (by omega)
        by_cases ho : od < 0
        · go_wp2_with fail
          go_region_held (fun W : World => (W.cell? ⟨wr.heap.size, 0, none⟩ = some (.int .i64 x1) ∧ W.cell? ⟨wr.heap.size, 1, none⟩ = some (.int .i64 x2) ∧ W.cell? ⟨wr.heap.size, 2, none⟩ = some (.int .i64 x3) ∧ W.cell? ⟨wr.heap.size, 3, none⟩ = some (.int .i64 x4) ∧ W.cell? ⟨wr.heap.size, 4, none⟩ = some (.int .i64 x5) ∧ W.cell? ⟨wr.heap.size, 5, none⟩ = some (.int .i64 x6) ∧ W.cell? ⟨bs, off + p * 6, none⟩ = some (.int .i64 y1) ∧ W.cell? ⟨bs, off + p * 6 + 1, none⟩ = some (.int .i64 y2) ∧ W.cell? ⟨bs, off + p * 6 + 2, none⟩ = some (.int .i64 y3) ∧ W.cell? ⟨bs, off + p * 6 + 3, none⟩ = some (.int .i64 y4) ∧ W.cell? ⟨bs, off + p * 6 + 4, none⟩ = some (.int .i64 y5) ∧ W.cell? ⟨bs, off + p * 6 + 5, none⟩ = some (.int .i64 y6))) (first | exact HS0.out _ (fun b j h => rfl) | exact HS0.out _ (fun b j h => World.cell?_of_block (HBo.block b (by simpa using h)))) (first | (go_at_call 18; refine (HOD.out _).mono ?_; rintro e w' ⟨rfl, HBo⟩))
          have HBW : Hid (Below w.heap.size w w') := hide (HW1.out.drew.trans (HBo.mono HW1.out.size))
          have HCW := hide (HCN.out w' (fun j => World.cell?_of_block (HBo.block _ (by simp))))
          clear HBo
          obtain ⟨c1, c2, c3, c4, c5, c6⟩ := HCW.out
          simp only [Nat.zero_add] at c1 c2 c3 c4 c5 c6
          cases pl
          · go_wp2_with (first | (go_at_call 19; refine (HPL.out _).mono ?_; rintro e w' ⟨rfl, rfl⟩) | (go_at_call 20; refine (HSM.out _).mono ?_; rintro e w' ⟨rfl, HBs⟩))
            go_ret
            exact ⟨ret_int (FAIL.out (by rw [HQ.out]; simp)), HBW.out⟩
          cases sm
          · go_wp2_with (first | (go_at_call 19; refine (HPL.out _).mono ?_; rintro e w' ⟨rfl, rfl⟩) | (go_at_call 20; refine (HSM.out _).mono ?_; rintro e w' ⟨rfl, HBs⟩))
            go_ret
            exact ⟨ret_int (FAIL.out (by rw [HQ.out]; simp)), HBW.out.trans (HBs.mono HBW.out.size)⟩
          · go_wp2_with (first | (go_at_call 19; refine (HPL.out _).mono ?_; rintro e w' ⟨rfl, rfl⟩) | (go_at_call 20; refine (HSM.out _).mono ?_; rintro e w' ⟨rfl, HBs⟩))
            go_roundw
            case rel => exact ⟨p + 1 + 1, by omega, by simp, hide (STEP.out (by rw [HQ.out]; simp [ho])), hide (HBW.out.trans (HBs.mono HBW.out.size))⟩
            case measure => simp [intOf]; omega
        · go_wp2_with fail
          go_region_held (fun W : World => (W.cell? ⟨wr.heap.size, 0, none⟩ = some (.int .i64 x1) ∧ W.cell? ⟨wr.heap.size, 1, none⟩ = some (.int .i64 x2) ∧ W.cell? ⟨wr.heap.size, 2, none⟩ = some (.int .i64 x3) ∧ W.cell? ⟨wr.heap.size, 3, none⟩ = some (.int .i64 x4) ∧ W.cell? ⟨wr.heap.size, 4, none⟩ = some (.int .i64 x5) ∧ W.cell? ⟨wr.heap.size, 5, none⟩ = some (.int .i64 x6) ∧ W.cell? ⟨bs, off + p * 6, none⟩ = some (.int .i64 y1) ∧ W.cell? ⟨bs, off + p * 6 + 1, none⟩ = some (.int .i64 y2) ∧ W.cell? ⟨bs, off + p * 6 + 2, none⟩ = some (.int .i64 y3) ∧ W.cell? ⟨bs, off + p * 6 + 3, none⟩ = some (.int .i64 y4) ∧ W.cell? ⟨bs, off + p * 6 + 4, none⟩ = some (.int .i64 y5) ∧ W.cell? ⟨bs, off + p * 6 + 5, none⟩ = some (.int .i64 y6))) (first | exact HS0.out _ (fun b j h => rfl) | exact HS0.out _ (fun b j h => World.cell?_of_block (HBo.block b (by simpa using h)))) (first | (go_at_call 18; refine (HOD.out _).mono ?_; rintro e w' ⟨rfl, HBo⟩))
          have HBW : Hid (Below w.heap.size w w') := hide (HW1.out.drew.trans (HBo.mono HW1.out.size))
          have HCW := hide (HCN.out w' (fun j => World.cell?_of_block (HBo.block _ (by simp))))
          clear HBo
          have HO := hide (show decide (od < 0) = false from decide_eq_false (by omega))
          go_wp2_with (first | (go_at_call 19; refine (HPL.out _).mono ?_; rintro e w' ⟨rfl, rfl⟩) | (go_at_call 20; refine (HSM.out _).mono ?_; rintro e w' ⟨rfl, HBs⟩))
          go_ret
          exact ⟨ret_int (FAIL.out (by rw [HQ.out, HO.out]; simp)), HBW.out⟩
    · obtain rfl : k = len := by omega
      go_wp2
      go_ret
      refine ⟨ret_int ?_, HW.out⟩
      rw [HT.out, if_pos]
      rw [HG.out, HLN.out, Bool.and_eq_true]
      exact ⟨decide_eq_true (by omega), List.all_eq_true.2 fun j hj => HA.out j (List.mem_range.1 hj)⟩
end Go.Proofs.YtffhkljegopjmaaDoor
