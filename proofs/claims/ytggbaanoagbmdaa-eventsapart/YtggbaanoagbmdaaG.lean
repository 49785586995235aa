/- events.Check -/
import Derived.Test.YtggbaanoagbmdaaF
import Derived.Test.YtggbaanoagbmdaaH
namespace Go.Proofs.Ytggbaanoagbmdaa
open Go.RowKit
/-- an event in its place -/
def okAt (l : List Ev) (i : Nat) : Bool :=
  !(l.getD i Ev0).st.toList.isEmpty && !([(l.getD i Ev0).st, (l.getD i Ev0).ma, (l.getD i Ev0).dt].any longB) && decide ((l.getD i Ev0).glob = (i : Int) + 1) && decide ((l.getD i Ev0).num = (cntS l (i + 1) (l.getD i Ev0).st : Int)) &&
    !(!(l.getD i Ev0).ma.toList.isEmpty && decide (1 < cntM l (i + 1) (l.getD i Ev0).st (l.getD i Ev0).ma))
def goodB (l : List Ev) : Bool := decide (l.length ≤ 16384) && (List.range l.length).all (okAt l)
def checkE (l : List Ev) : Int := if goodB l = true then 0 else 2
theorem goodB_iff {l : List Ev} : goodB l = true ↔ l.length ≤ 16384 ∧ ∀ i, i < l.length → okAt l i = true := by
  simp only [goodB, Bool.and_eq_true, decide_eq_true_eq, List.all_eq_true, List.mem_range]
theorem cntS_succ (l : List Ev) (k : Nat) (hk : k < l.length) : cntS l (k + 1) (l.getD k Ev0).st = cntS l k (l.getD k Ev0).st + 1 := by
  unfold cntS; rw [take_filter_pos _ l k Ev0 hk (isOf_self _)]; simp
theorem cntM_succ (l : List Ev) (k : Nat) (hk : k < l.length) : cntM l (k + 1) (l.getD k Ev0).st (l.getD k Ev0).ma = cntM l k (l.getD k Ev0).st (l.getD k Ev0).ma + 1 := by
  unfold cntM; rw [take_filter_pos _ l k Ev0 hk (isM_self _)]; simp
theorem okAt_x {l : List Ev} {k : Nat} {x : Ev} (h : l.getD k Ev0 = x) (hk : k < l.length) : okAt l k = (!x.st.toList.isEmpty && !([x.st, x.ma, x.dt].any longB) && decide (x.glob = (k : Int) + 1) && decide (x.num = (cntS l k x.st : Int) + 1) && !(!x.ma.toList.isEmpty && decide (1 < cntM l k x.st x.ma + 1))) := by
  unfold okAt
  rw [cntS_succ l k hk, cntM_succ l k hk]
  subst h
  rfl
theorem wf_nat (n : Nat) (h : n < 9223372036854775807) : (Lit.int .i64 ((n : Int) + 1)).wf = true := by
  simp [Lit.wf, IntKind.min, IntKind.max, IntKind.bits, IntKind.signed]; omega
set_option maxRecDepth 40000 in
set_option maxHeartbeats 1000000 in
/-- events.Check -/
theorem check_any (a : Option Addr) (len cap : Nat) (l : List Ev) (w : World) (h : IsE w a len cap l) :
    Calls Try.prog 14 #[.slice a len cap] w fun e w' => e = .returned (.int .i64 (checkE l)) ∧ Below w.heap.size w w' := by
  have HV := hide h
  have HLN := hide h.1
  have hcap := h.2.1
  have hcm : cap ≤ 9223372036854775807 := h.2.2.1
  have hmm := @run_makeMap Try.prog
  clear h
  by_cases h1 : len ≤ 16384
  case neg =>
    have d1 : decide ((16384 : Int) < (len : Int)) = true := decide_eq_true (by omega)
    have HE : Hid (checkE l = 2) := hide (by unfold checkE; rw [if_neg (fun h => by have := (goodB_iff.1 h).1; have := HLN.out; omega)])
    go_enter Try.func14, Try.ntmps14
    go_wp2
    go_ret
    exact ⟨by rw [HE.out]; rfl, Below.refl _ _⟩
  case pos =>
    have d1 : decide ((16384 : Int) < (len : Int)) = false := decide_eq_false (by omega)
    have HB0 : Hid (Below w.heap.size w ((w.alloc (.map #[] 0)).alloc (.map #[] 0))) := hide (((Below.refl _ w).alloc (Nat.le_refl _) _).alloc (by simp) _)
    have HM1 := hide ((World.ownsMap_made w Try.prog 9 (plainElem (H := Unit) Try.prog 3)).alloc (.map #[] 0))
    have HM2 := hide (World.ownsMap_made (w.alloc (.map #[] 0)) Try.prog 54 (plainElem (H := Unit) Try.prog 3))
    rw [World.size_alloc] at HM2
    go_enter Try.func14, Try.ntmps14
    go_wp2
    generalize hW1 : (w.alloc (.map #[] 0)).alloc (.map #[] 0) = W1 at *
    generalize hB : w.heap.size = B at *
    have HBE := hide hB
    have HS1 : Hid (B + 2 ≤ W1.heap.size) := hide (by rw [← hW1, ← hB]; simp)
    clear hW1 hB hmm
    go_loopw [17] (fun i wr => ∃ (k : Nat) (D1 D2 : DataW Unit), k ≤ len ∧ i = .int .i64 k ∧ Hid (∀ j, j < k → okAt l j = true) ∧ Hid (wr.ownsMap Try.prog 9 (plainElem (H := Unit) Try.prog 3) B k D1 ∧ Cnt9 D1 l k) ∧ Hid (wr.ownsMap Try.prog 54 (plainElem (H := Unit) Try.prog 3) (B + 1) k D2 ∧ Cnt54 D2 l k) ∧ Hid (Below B w wr ∧ B + 2 ≤ wr.heap.size)) (fun i _ => len - (intOf i).toNat)
    case atStart => exact ⟨0, _, _, Nat.zero_le _, rfl, hide (fun j hj => by omega), hide ⟨HM1.out, Cnt9.start l⟩, hide ⟨HM2.out, Cnt54.start l⟩, hide ⟨HB0.out, HS1.out⟩⟩
    case round =>
      obtain ⟨k, D1, D2, hk, rfl, HA, HD1, HD2, HB⟩ := hrel
      by_cases hlt : k < len
      case neg =>
        obtain rfl : k = len := by omega
        have HE : Hid (checkE l = 0) := hide (by unfold checkE; rw [if_pos (goodB_iff.2 ⟨by rw [HLN.out]; exact h1, fun i hi => HA.out i (by rw [← HLN.out]; exact hi)⟩)])
        go_wp2
        go_ret
        exact ⟨by rw [HE.out]; rfl, by rw [HBE.out]; exact HB.out.1⟩
      case pos =>
        have HLL : Hid (k < l.length) := hide (by rw [HLN.out]; exact hlt)
        have HVW : Hid (IsE wr a len cap l) := hide (HV.out.below' (by rw [HBE.out]; exact HB.out.1))
        obtain ⟨bs, off, rfl, hbs, z0, z1, z2, z3, z4⟩ := HVW.out.2.2.2.2 k hlt
        have HOK : Hid (okE (l.getD k Ev0)) := hide (HV.out.2.2.2.1 _ (by rw [List.getD_eq_getElem?_getD, List.getElem?_eq_getElem HLL.out]; simp))
        have HT1 := hide (Cnt9.step HD1.out.2 HD1.out.1.isMap HLL.out)
        have HT2 := hide (fun kl => Cnt54.step (kl := kl) HD2.out.2 HD2.out.1.isMap HLL.out)
        generalize hx : l.getD k Ev0 = x at *
        have HX := hide hx
        clear hx
        have HKA := hide (okAt_x HX.out HLL.out)
        obtain ⟨kl, hkl⟩ := key54 x.st x.ma HOK.out.1 HOK.out.2.1
        have HKL := hide hkl
        have hks := WideMaps.keyOf_string_mk (P := Try.prog) (k := 9) Try.underlying9 HOK.out.1
        have HCL : Hid (cntS l k x.st ≤ 16384 ∧ cntM l k x.st x.ma ≤ 16384) := hide ⟨Nat.le_trans cnt_le (by omega), Nat.le_trans cnt_le (by omega)⟩
        have HQ1 := hide (HD1.out.2 x.st)
        have HQ2 := hide (HD2.out.2 x.st x.ma kl hkl)
        generalize cntS l k x.st = c at *
        generalize cntM l k x.st x.ma = d at *
        have hwr1 : IntKind.i64.wrap ((c : Int) + 1) = (c : Int) + 1 := wrap_nat _ (by have := HCL.out; omega)
        have hwr2 : IntKind.i64.wrap ((d : Int) + 1) = (d : Int) + 1 := wrap_nat _ (by have := HCL.out; omega)
        have hwr3 : IntKind.i64.wrap ((k : Int) + 1) = (k : Int) + 1 := wrap_nat _ (by omega)
        -- the event's own block
        have hown1 := HD1.out.1.alloc (.cells #[.string x.st, .int .i64 x.num, .int .i64 x.glob, .string x.ma, .string x.dt] 41)
        obtain ⟨c', hrun1, hat1, hwc1⟩ := hown1.lookup_int keyed9 Try.underlying51 Try.underlying3 (zero3 _) hks
        rw [HQ1.out] at hat1
        simp only [DataW.lit.injEq, Lit.int.injEq, true_and] at hat1
        subst hat1
        obtain ⟨W2, hrun2, hown2, hg2⟩ := hown1.update keyed9 Try.underlying51 (by show k < 9223372036854775807; omega) hks (val := .int .i64 ((c : Int) + 1)) (plainElem_int Try.underlying3 (wf_nat c (by have := HCL.out; omega)))
        have HO2 := hide hown2
        have HG2 := hide hg2
        have hcell2 : ∀ j v, (wr.alloc (.cells #[.string x.st, .int .i64 x.num, .int .i64 x.glob, .string x.ma, .string x.dt] 41)).cell? ⟨wr.heap.size, j, none⟩ = some v → W2.cell? ⟨wr.heap.size, j, none⟩ = some v := fun j v hv => hg2.cell hv (by have := HB.out.2; simp; omega)
        have hnew := heap_alloc_new wr (.cells #[.string x.st, .int .i64 x.num, .int .i64 x.glob, .string x.ma, .string x.dt] 41)
        have y0 := hcell2 0 _ (cell_blk hnew rfl)
        have y1 := hcell2 1 _ (cell_blk hnew rfl)
        have y2 := hcell2 2 _ (cell_blk hnew rfl)
        have y3 := hcell2 3 _ (cell_blk hnew rfl)
        have y4 := hcell2 4 _ (cell_blk hnew rfl)
        simp only [List.getElem_toArray, List.getElem_cons_zero, List.getElem_cons_succ] at y0 y1 y2 y3 y4
        clear hown1 hown2 hg2 hks hkl hwc1 hcell2 hnew
        -- the mark's block, and its entry
        have HW3 : Hid ((W2.alloc (.cells #[.string x.st, .string x.ma] 54)).drew.ownsMap Try.prog 54 (plainElem (H := Unit) Try.prog 3) (B + 1) k D2) := hide ((((HD2.out.1.alloc _).kept HG2.out (by simp)).alloc _).drew)
        have HN3 : Hid ((W2.alloc (.cells #[.string x.st, .string x.ma] 54)).drew.heap[W2.heap.size]? = some (.cells #[.string x.st, .string x.ma] 54 (0, 0))) := hide (heap_alloc_new W2 _)
        obtain ⟨d', hrun3, hat3, hw3⟩ := HW3.out.lookup_int keyed54 Try.underlying52 Try.underlying3 (zero3 _) HKL.out
        rw [HQ2.out] at hat3
        simp only [DataW.lit.injEq, Lit.int.injEq, true_and] at hat3
        subst hat3
        clear hw3
        obtain ⟨v0, stp, W4, hrun4, hg4, ⟨D2', hown4, hat4⟩, hst4⟩ := entry54 HW3.out (by show k < 9223372036854775807; omega) HKL.out
        obtain ⟨d', hrun5, hat5, hw5⟩ := hown4.lookup_int keyed54 Try.underlying52 Try.underlying3 (zero3 _) HKL.out
        rw [hat4, HQ2.out] at hat5
        simp only [DataW.lit.injEq, Lit.int.injEq, true_and] at hat5
        subst hat5
        clear hw5
        obtain ⟨W5, hrun6, hg5, hown5⟩ := hst4 (.int .i64 ((d : Int) + 1)) _ _ (plainElem_int Try.underlying3 (wf_nat d (by have := HCL.out; omega)))
        have HSA : Hid (∀ W : World, (W = (W2.alloc (.cells #[.string x.st, .string x.ma] 54)).drew ∨ W = W4) → W.cell? ⟨W2.heap.size, 0, none⟩ = some (.string x.st) ∧ W.cell? ⟨W2.heap.size, 1, none⟩ = some (.string x.ma) ∧ (Instr.lookup 52 (.map (some (B + 1))) (.agg #[.string x.st, .string x.ma]) false).run Try.prog W = .ok (.int .i64 d) W) := hide (fun W hW => by
          have hne : some W2.heap.size ≠ some (B + 1) := by have := HB.out.2; have := HG2.out.size; simp at this ⊢; omega
          rcases hW with rfl | rfl
          · exact ⟨cell_blk HN3.out rfl, cell_blk HN3.out rfl, hrun3⟩
          · exact ⟨hg4.cell (cell_blk HN3.out rfl) hne, hg4.cell (cell_blk HN3.out rfl) hne, hrun5⟩)
        have HG5 := hide hg5
        have HO5 := hide hown5
        have hR4 := hide hrun4
        have hR6 := hide hrun6
        clear hown4 hown5 hg4 hg5 hst4 hrun3 hrun5 hat4 hrun4 hrun6
        set_option maxHeartbeats 400000 in
        go_wp2_with fail
        refine wp_region_last 6 (fun W : World => W.cell? ⟨W2.heap.size, 0, none⟩ = some (.string x.st) ∧ W.cell? ⟨W2.heap.size, 1, none⟩ = some (.string x.ma) ∧ (Instr.lookup 52 (.map (some (B + 1))) (.agg #[.string x.st, .string x.ma]) false).run Try.prog W = .ok (.int .i64 d) W) (by kernel_rfl) (HSA.out _ (.inl rfl)) (fun hHeld => ?_)
        refine wpAnyL_take (i := 0) (v := ?v0a) rfl (by kernel_rfl) (fun _ _ _ h => h) (by assumption) (by rfl) ?hy0a ?hn0a
        case hy0a => (intro w hSw; (try dsimp only at hSw); go_simp; try with_reducible rfl)
        try simp only [Act.put]
        refine wpAnyL_take (i := 1) (v := ?v1a) rfl (by kernel_rfl) (fun _ _ _ h => h) (by assumption) (by rfl) ?hy1a ?hn1a
        case hy1a => (intro w hSw; (try dsimp only at hSw); go_simp; try with_reducible rfl)
        try simp only [Act.put]
        refine wpAnyL_take (i := 2) (v := ?v2a) rfl (by kernel_rfl) (fun _ _ _ h => h) (by assumption) (by rfl) ?hy2a ?hn2a
        case hy2a => (intro w hSw; (try dsimp only at hSw); go_simp; try with_reducible rfl)
        try simp only [Act.put]
        refine wpAnyL_take (i := 3) (v := ?v3a) rfl (by kernel_rfl) (fun _ _ _ h => h) (by assumption) (by rfl) ?hy3a ?hn3a
        case hy3a => (intro w hSw; (try dsimp only at hSw); go_simp; try with_reducible rfl)
        try simp only [Act.put]
        refine wpAnyL_one (i := 4) rfl (by kernel_rfl) (fun K hK => ?_)
        have hrun4 := hR4.out
        go_simp
        refine hK.out _ _ (HSA.out W4 (.inr rfl)) (fun _ => ?_)
        clear hK K hHeld
        try simp only [Act.put]
        have hHeld := HSA.out W4 (.inr rfl)
        refine wpAnyL_take (i := 5) (v := ?v5a) rfl (by kernel_rfl) (fun _ _ _ h => h) (by assumption) (by rfl) ?hy5a ?hn5a
        case hy5a => (intro w hSw; (try dsimp only at hSw); go_simp; try with_reducible rfl)
        try simp only [Act.put]
        refine wpAnyL_last rfl (by kernel_rfl) (by kernel_rfl) (fun K hK => ?_)
        have hrun6 := hR6.out
        go_simp
        refine hK.out _ _ ?_
        clear hK K hHeld
        have HNE : Hid (some wr.heap.size ≠ some (B + 1) ∧ some W2.heap.size ≠ some (B + 1) ∧ some B ≠ some (B + 1)) := hide (by have h1 := HB.out.2; have h2 := HG2.out.size; simp only [World.size_alloc] at h2; simp only [ne_eq, Option.some.injEq]; exact ⟨by omega, by omega, by omega⟩)
        have hcell5 : ∀ j v, W2.cell? ⟨wr.heap.size, j, none⟩ = some v → W5.cell? ⟨wr.heap.size, j, none⟩ = some v := fun j v hv => HG5.out.cell (a := ⟨wr.heap.size, j, none⟩) ((World.grownBy_alloc W2 _ none).cell hv (by simp)) HNE.out.1
        have q0 := hcell5 0 _ y0
        have q1 := hcell5 1 _ y1
        have q2 := hcell5 2 _ y2
        have q3 := hcell5 3 _ y3
        have q4 := hcell5 4 _ y4
        have m0 := HG5.out.cell (a := ⟨W2.heap.size, 0, none⟩) (cell_blk (j := 0) HN3.out rfl) HNE.out.2.1
        have m1 := HG5.out.cell (a := ⟨W2.heap.size, 1, none⟩) (cell_blk (j := 1) HN3.out rfl) HNE.out.2.1
        simp only [List.getElem_toArray, List.getElem_cons_zero, List.getElem_cons_succ] at m0 m1
        have HO9 : Hid (W5.ownsMap Try.prog 9 (plainElem (H := Unit) Try.prog 3) B (k + 1) (D1.put (.string x.st.data.toList) (.lit (.int .i64 ((c : Int) + 1))))) := hide (((HO2.out.alloc _).drew).kept HG5.out HNE.out.2.2)
        obtain ⟨c', hrun7, hat7, hw7⟩ := HO9.out.lookup_int keyed9 Try.underlying51 Try.underlying3 (zero3 _) (WideMaps.keyOf_string_mk (P := Try.prog) (k := 9) Try.underlying9 HOK.out.1)
        rw [Maps.atKey_put_same HD1.out.1.isMap (show WideAt.IsKeyLit (.string _) from trivial)] at hat7
        simp only [DataW.lit.injEq, Lit.int.injEq, true_and] at hat7
        subst hat7
        clear hw7
        obtain ⟨d', hrun8, hat8, hw8⟩ := HO5.out.lookup_int keyed54 Try.underlying52 Try.underlying3 (zero3 _) HKL.out
        rw [Maps.atKey_put_same HD2.out.1.isMap (keyed54.key HKL.out)] at hat8
        simp only [DataW.lit.injEq, Lit.int.injEq, true_and] at hat8
        subst hat8
        clear hw8
        have HB5 : Hid (Below B w W5 ∧ B + 2 ≤ W5.heap.size) := hide (by
          have b1 := HB.out.2
          have s1 := HG2.out.size
          have s2 := HG5.out.size
          simp only [World.size_alloc] at s1
          have s3 : W2.heap.size + 1 ≤ W5.heap.size := by simpa using s2
          have h0 := HB.out.1.alloc (by omega) (.cells #[.string x.st, .int .i64 x.num, .int .i64 x.glob, .string x.ma, .string x.dt] 41)
          have h2 := h0.grown HG2.out (by simp; omega) (fun k e => by cases e; exact Nat.le_refl _)
          have h3 := (h2.alloc (by omega) (.cells #[.string x.st, .string x.ma] 54)).drew
          have h5 := h3.grown HG5.out (by simp; omega) (fun k e => by cases e; omega)
          exact ⟨h5, by omega⟩)
        have HAL : Hid (∀ o : Obj, Below B w (W5.alloc o) ∧ B + 2 ≤ (W5.alloc o).heap.size) := hide (fun o => ⟨HB5.out.1.alloc (by have := HB5.out.2; omega) o, by have := HB5.out.2; simp; omega⟩)
        have HT := hide (fun W (hW : IsT W (some ⟨W5.heap.size, 0, none⟩) 3 3 [x.st, x.ma, x.dt]) => anyLong_any _ _ _ _ W hW)
        have HI : Hid (IsT (W5.alloc (.cells #[.string x.st, .string x.ma, .string x.dt] 9)) (some ⟨W5.heap.size, 0, none⟩) 3 3 [x.st, x.ma, x.dt]) := hide (by
          have hn := heap_alloc_new W5 (.cells #[.string x.st, .string x.ma, .string x.dt] 9)
          refine ⟨rfl, Nat.le_refl _, by show (3:Nat) ≤ 9223372036854775807; omega, ?_, fun i hi => ⟨W5.heap.size, 0, rfl, by simp, ?_⟩⟩
          · intro y hy
            have := HOK.out
            simp only [List.mem_cons, List.not_mem_nil, or_false] at hy
            rcases hy with rfl | rfl | rfl
            · exact this.1
            · exact this.2.1
            · exact this.2.2.1
          · match i, hi with
            | 0, _ => exact cell_blk hn rfl
            | 1, _ => exact cell_blk hn rfl
            | 2, _ => exact cell_blk hn rfl)
        have HAN := hide (HT.out _ HI.out)
        have HBAD : Hid (okAt l k = false → checkE l = 2) := hide (fun hf => by unfold checkE; rw [if_neg (fun h => by have := (goodB_iff.1 h).2 k HLL.out; rw [hf] at this; cases this)])
        have HGOOD : Hid (okAt l k = true → ∀ j, j < k + 1 → okAt l j = true) := hide (fun ht j hj => by
          by_cases e : j = k
          · rw [e]; exact ht
          · exact HA.out j (by omega))
        generalize hlong : [x.st, x.ma, x.dt].any longB = lg at *
        have G1 : Hid (x.st.toList = [] → checkE l = 2) := hide (fun h => HBAD.out (by rw [HKA.out, h]; rfl))
        have G2 : Hid (lg = true → checkE l = 2) := hide (fun h => HBAD.out (by rw [HKA.out, h]; simp))
        have G3 : Hid (¬ x.glob = (k : Int) + 1 → checkE l = 2) := hide (fun h => HBAD.out (by rw [HKA.out, decide_eq_false h]; simp))
        have G4 : Hid (¬ x.num = (c : Int) + 1 → checkE l = 2) := hide (fun h => HBAD.out (by rw [HKA.out, decide_eq_false h]; simp))
        have G5 : Hid (x.st.toList.isEmpty = true → checkE l = 2) := hide (fun h => HBAD.out (by rw [HKA.out, h]; rfl))
        have G6 : Hid ((x.st.toList.isEmpty = true ∨ (!x.ma.toList.isEmpty) = true ∧ 1 < (d : Int) + 1) → checkE l = 2) := hide (fun h => by
          rcases h with h | ⟨h, h'⟩
          · exact G5.out h
          · exact HBAD.out (by rw [HKA.out, h, decide_eq_true (show 1 < d + 1 by omega)]; simp))
        have G7 : Hid (x.ma.toList = [] → x.glob = (k : Int) + 1 → ¬ x.st.toList = [] → ¬ lg = true → x.num = (c : Int) + 1 → okAt l k = true) := hide (fun h1 h2 h3 h4 h5 => by
          rw [HKA.out, decide_eq_true h2, decide_eq_true h5, h1, eq_false_of_ne_true h4]
          simpa using h3)
        have G8 : Hid (x.glob = (k : Int) + 1 → ¬ lg = true → x.num = (c : Int) + 1 → (x.st.toList.isEmpty = false ∧ ((!x.ma.toList.isEmpty) = false ∨ (d : Int) + 1 ≤ 1)) → okAt l k = true) := hide (fun h2 h4 h5 h6 => by
          rw [HKA.out, decide_eq_true h2, decide_eq_true h5, h6.1, eq_false_of_ne_true h4]
          rcases h6.2 with h | h
          · rw [h]; rfl
          · rw [decide_eq_false (show ¬ 1 < d + 1 by omega)]; simp)
        have HO9A := hide (fun o : Obj => HO9.out.alloc o)
        have HO5A := hide (fun o : Obj => HO5.out.alloc o)
        have HTT := hide (HT2.out kl HKL.out)
        clear hlong HT HI HBAD HKA y0 y1 y2 y3 y4 z0 z1 z2 z3 z4 hcell5 hrun1 hrun2 hR4 hR6 HSA HW3
        generalize wr.heap.size = r at *
        generalize W2.heap.size = mb at *
        have HK9 : Hid (k < len) := hide hlt
        clear hk h1 hcm hcap hbs hlt d1
        set_option maxHeartbeats 400000 in
        go_wp2_with (go_at_call 25; refine HAN.out.mono ?_; rintro e w' ⟨rfl, rfl⟩)
        all_goals first
          | (go_ret
             refine ⟨?_, ?_⟩
             · first
               | rw [G1.out (by assumption)]; rfl
               | rw [G2.out (by assumption)]; rfl
               | rw [G3.out (by assumption)]; rfl
               | rw [G4.out (by assumption)]; rfl
               | rw [G5.out (by assumption)]; rfl
               | rw [G6.out (by assumption)]; rfl
             · rw [HBE.out]
               first
               | exact (HAL.out _).1
               | exact HB5.out.1)
          | (have HOKK : okAt l k = true := by
               first
               | exact G7.out (by assumption) (by assumption) (by assumption) (by assumption) (by assumption)
               | exact G8.out (by assumption) (by assumption) (by assumption) (by assumption)
             go_roundw
             case rel => exact ⟨k + 1, _, _, HK9.out, by simp, hide (HGOOD.out HOKK), hide ⟨HO9A.out _, HT1.out⟩, hide ⟨HO5A.out _, HTT.out⟩, hide (HAL.out _)⟩
             case measure => have := HK9.out; simp [intOf]; omega)
end Go.Proofs.Ytggbaanoagbmdaa
