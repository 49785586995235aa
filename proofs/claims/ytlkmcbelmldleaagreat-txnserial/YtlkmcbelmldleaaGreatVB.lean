/- mvcc.Check -/
import Derived.Test.YtlkmcbelmldleaaGreatVA
namespace Go.Proofs.YtlkmcbelmldleaaGreat
open Go.RowKit
set_option maxRecDepth 40000
theorem heap_lt {w : World} {b : Nat} {o : Obj} (h : w.heap[b]? = some o) : b < w.heap.size := by
  by_cases hlt : b < w.heap.size
  · exact hlt
  · rw [Array.getElem?_eq_none (by omega)] at h; cases h
theorem cell_blk {w : World} {b j : Nat} {cs : Array Value} {t : TypeId} {v : Value} (h : w.heap[b]? = some (.cells cs t (0, 0))) (hv : cs[j]? = some v) : w.cell? ⟨b, j, none⟩ = some v := by
  simp [World.cell?, h, hv]
theorem hTake {P : Program} {ops : Array Oper} {Q : Exit → Act → World → Prop} {md : Region.Mode} {S : World → Prop} {i : Nat} {oi : Oper} {v : Value} {fuel : Nat} {listed : Array Bool} {a : Act} {w : World} (d : Option Tmp) (hi : ops[i]? = some oi) (hd : oi.dst = d)
    (hs : Region.noSelect ops = true) (hf : Region.free md ops listed i = true) (hr : (Region.ready md ops listed).contains i = true) (hQ : ∀ c a w, Q (.panic c) (a.put d v) w → Q (.panic c) a w)
    (hwt : Region.wanted oi (yielded ops a.tmps) = true) (hS : S w) (hy : ∀ w, S w → (execOp a.eval oi).run P w = .ok (.value v) w)
    (h : wpAnyH P md ops Q S fuel (listed.setIfInBounds i true) (a.put d v) w) : wpAnyH P md ops Q S (fuel + 1) listed a w := by
  subst hd
  exact wpAnyH_take hi hs hf hr hQ (.inl ⟨hwt, hy⟩) hS h
theorem hSkip {P : Program} {ops : Array Oper} {Q : Exit → Act → World → Prop} {md : Region.Mode} {S : World → Prop} {i : Nat} {oi : Oper} {fuel : Nat} {listed : Array Bool} {a : Act} {w : World} (d : Option Tmp) (hi : ops[i]? = some oi) (hd : oi.dst = d)
    (hs : Region.noSelect ops = true) (hf : Region.free md ops listed i = true) (hr : (Region.ready md ops listed).contains i = true) (hQ : ∀ c a w, Q (.panic c) (a.put d undef) w → Q (.panic c) a w)
    (hwt : Region.wanted oi (yielded ops a.tmps) = false) (hS : S w)
    (h : wpAnyH P md ops Q S fuel (listed.setIfInBounds i true) (a.put d undef) w) : wpAnyH P md ops Q S (fuel + 1) listed a w := by
  subst hd
  exact wpAnyH_take hi hs hf hr hQ (.inr ⟨hwt, rfl⟩) hS h
theorem hOne {P : Program} {ops : Array Oper} {Q : Exit → Act → World → Prop} {md : Region.Mode} {S : World → Prop} {i : Nat} {o : Oper} {fuel : Nat} {listed : Array Bool} {a : Act} {w : World} (ho : ops[i]? = some o) (hr : Region.ready md ops listed = [i])
    (h : ∀ K' : Act → World → Prop, Shut (∀ a w, S w → (S w → wpAnyH P md ops Q S fuel (listed.setIfInBounds i true) a w) → K' a w) → if Region.wanted o (yielded ops a.tmps) = true then Oper.wp P o a w K' Q else K' (a.put o.dst undef) w) : wpAnyH P md ops Q S (fuel + 1) listed a w :=
  wpAnyH_ready hr (by simp) (AllReadyH.cons ho h AllReadyH.nil)
def okAt (l : List Vr) (i : Nat) : Bool := rightB (l.getD i Vr0) && (decide (i = 0) || behindB (l.getD (i - 1) Vr0) (l.getD i Vr0))
def goodB (low : Nat) (l : List Vr) : Bool := decide (l.length ≤ 4096) && decide (low ≤ 2305843009213693952) && (List.range l.length).all (okAt l)
def checkE (low : Nat) (l : List Vr) : Int := if goodB low l = true then 0 else 2
theorem goodB_iff {low : Nat} {l : List Vr} : goodB low l = true ↔ l.length ≤ 4096 ∧ low ≤ 2305843009213693952 ∧ ∀ i, i < l.length → okAt l i = true := by
  simp only [goodB, Bool.and_eq_true, decide_eq_true_eq, List.all_eq_true, List.mem_range]
  exact ⟨fun h => ⟨h.1.1, h.1.2, h.2⟩, fun h => ⟨⟨h.1, h.2.1⟩, h.2.2⟩⟩
set_option maxRecDepth 40000 in
set_option maxHeartbeats 4000000 in
/-- mvcc.Check -/
theorem check_any (a : Option Addr) (len cap low : Nat) (l : List Vr) (w : World) (h : IsV w a len cap l) :
    Calls Tryz.prog 93 #[.agg #[.slice a len cap, .int .u64 (low : Nat)]] w fun e w' => e = .returned (.int .i64 (checkE low l)) ∧ Below w.heap.size w w' := by
  have HV := hide h
  have HLN := hide h.1
  have hcap := h.2.1
  have HNW := hide (fun o : Obj => heap_alloc_new w o)
  have HAL := hide (fun o : Obj => (Below.refl w.heap.size w).alloc (Nat.le_refl _) o)
  clear h
  by_cases h1 : len ≤ 4096
  · have d1 : decide ((4096 : Int) < (len : Int)) = false := decide_eq_false (by omega)
    by_cases h2 : low ≤ 2305843009213693952
    · have d2 : decide ((2305843009213693952 : Int) < (low : Int)) = false := decide_eq_false (by omega)
      have HL2 := hide h2
      clear h2
      go_enter Tryz.func93, Tryz.ntmps93
      go_wp2_with fail
      generalize hW1 : w.alloc (.cells #[.slice a len cap, .int .u64 (low : Nat)] 31) = W1
      have HB1 : Hid (Below w.heap.size w W1) := hide (by rw [← hW1]; exact HAL.out _)
      have HX1 : Hid (W1.heap[w.heap.size]? = some (.cells #[.slice a len cap, .int .u64 (low : Nat)] 31 (0, 0))) := hide (by rw [← hW1]; exact HNW.out _)
      generalize hB : w.heap.size = B at *
      have HBE := hide hB
      clear hW1 hB HAL HNW
      go_loopw [17] (fun i wr => ∃ k : Nat, k ≤ len ∧ i = .int .i64 k ∧ Hid (∀ j, j < k → okAt l j = true) ∧ Hid (Below W1.heap.size W1 wr)) (fun i _ => len - (intOf i).toNat)
      case atStart => exact ⟨0, Nat.zero_le _, rfl, hide (fun j hj => by omega), hide (Below.refl _ _)⟩
      case round =>
        obtain ⟨k, hk, rfl, HA, HB⟩ := hrel
        by_cases hlt : k < len
        · have HVW : Hid (IsV wr a len cap l) := hide (HV.out.below (HBE.out ▸ (HB1.out.trans (HB.out.mono (by have := HB1.out.size; have := HBE.out; omega)))))
          obtain ⟨bs, off, rfl, hbs, z0, z1, z2, z3⟩ := HVW.out.2.2.2 k hlt
          have HXK : Hid (l.getD k Vr0 = l.getD k Vr0) := hide rfl
          generalize hx : l.getD k Vr0 = x at *
          have HX := hide hx
          have HAL := hide (fun o : Obj => (Below.refl wr.heap.size wr).alloc (Nat.le_refl _) o)
          have HNW := hide (fun o : Obj => heap_alloc_new wr o)
          clear hx HXK
          go_wp2_with fail
          generalize hW2 : wr.alloc (.cells #[.string x.key, .int .u64 (x.at_ : Nat), .string x.val, .bool x.gone] 66) = W2
          have HB2 : Hid (Below wr.heap.size wr W2.drew) := hide (by rw [← hW2]; exact Below.drew (HAL.out _))
          have HX2 : Hid (W2.drew.heap[wr.heap.size]? = some (.cells #[.string x.key, .int .u64 (x.at_ : Nat), .string x.val, .bool x.gone] 66 (0, 0))) := hide (by rw [← hW2]; exact HNW.out _)
          have HX3 : Hid (W2.drew.heap[B]? = some (.cells #[.slice (some ⟨bs, off, none⟩) len cap, .int .u64 (low : Nat)] 31 (0, 0))) := hide ((HB2.out.block B (by have := heap_lt HX1.out; have := HB.out.size; omega)).trans ((HB.out.block B (heap_lt HX1.out)).trans HX1.out))
          generalize hr : wr.heap.size = r at *
          have HRE := hide hr
          have RT := hide (fun W => right_any x W)
          have B0 : Below W2.drew.heap.size W2.drew W2.drew := Below.refl _ _
          have HFI1 : Hid (∀ W, Below W2.drew.heap.size W2.drew W → Below W1.heap.size W1 W) := hide (fun W hW => HB.out.trans ((HRE.out ▸ HB2.out : Below wr.heap.size wr W2.drew).trans (hW.mono (HRE.out ▸ HB2.out : Below wr.heap.size wr W2.drew).size) |>.mono HB.out.size))
          have HFIN : Hid (∀ W, Below W2.drew.heap.size W2.drew W → Below B w W) := hide (fun W hW => HB1.out.trans ((HFI1.out W hW).mono (by have := HB1.out.size; have := HBE.out; omega)))
          clear hW2 hr z0 z1 z2 z3 HAL HNW
          by_cases hk0 : k = 0
          · subst hk0
            have HS : Hid (∀ W : World, Below W2.drew.heap.size W2.drew W → W.cell? ⟨r, 0, none⟩ = some (.string x.key) ∧ W.cell? ⟨r, 1, none⟩ = some (.int .u64 (x.at_ : Nat)) ∧ W.cell? ⟨r, 2, none⟩ = some (.string x.val) ∧ W.cell? ⟨r, 3, none⟩ = some (.bool x.gone)) := hide (fun W hW => by
              have h := (hW.block r (heap_lt HX2.out)).trans HX2.out
              exact ⟨cell_blk h rfl, cell_blk h rfl, cell_blk h rfl, cell_blk h rfl⟩)
            cases hrb : rightB x
            · skip
              refine wp_region_held_drew (S := (fun W : World => W.cell? ⟨r, 0, none⟩ = some (.string x.key) ∧ W.cell? ⟨r, 1, none⟩ = some (.int .u64 (x.at_ : Nat)) ∧ W.cell? ⟨r, 2, none⟩ = some (.string x.val) ∧ W.cell? ⟨r, 3, none⟩ = some (.bool x.gone))) (by kernel_rfl) ?hSa (fun hHeld => ?_)
              case hSa => exact HS.out _ B0
              refine hTake (i := 0) (v := ?v0a) (some 22) rfl rfl (by kernel_rfl) (by kernel_rfl) (by kernel_rfl) (fun _ _ _ h => h) (by rfl) (by assumption) ?hy0a ?hn0a
              case hy0a => (intro w hSw; (try dsimp only at hSw); go_simp; try with_reducible rfl)
              try simp only [Act.put, List.setIfInBounds_toArray, List.set_cons_zero, List.set_cons_succ]
              refine hOne (i := 1) rfl (by kernel_rfl) (fun K hK => ?_)
              go_simp
              refine (RT.out _).mono ?_
              rintro e wA ⟨rfl, hbA⟩
              rw [hrb]
              refine hK.out _ _ (HS.out _ hbA) (fun hHeld => ?_)
              clear hK K
              try simp only [Act.put, List.setIfInBounds_toArray, List.set_cons_zero, List.set_cons_succ]
              refine hTake (i := 2) (v := ?v2a) (some 24) rfl rfl (by kernel_rfl) (by kernel_rfl) (by kernel_rfl) (fun _ _ _ h => h) (by rfl) (by assumption) ?hy2a ?hn2a
              case hy2a => (intro w hSw; (try dsimp only at hSw); go_simp; try with_reducible rfl)
              try simp only [Act.put, List.setIfInBounds_toArray, List.set_cons_zero, List.set_cons_succ]
              refine hTake (i := 3) (v := ?v3a) (some 25) rfl rfl (by kernel_rfl) (by kernel_rfl) (by kernel_rfl) (fun _ _ _ h => h) (by rfl) (by assumption) ?hy3a ?hn3a
              case hy3a => (intro w hSw; (try dsimp only at hSw); go_simp; try with_reducible rfl)
              try simp only [Act.put, List.setIfInBounds_toArray, List.set_cons_zero, List.set_cons_succ]
              refine hSkip (i := 4) (some 26) rfl rfl (by kernel_rfl) (by kernel_rfl) (by kernel_rfl) (fun _ _ _ h => h) (by rfl) (by assumption) ?_
              try simp only [Act.put, List.setIfInBounds_toArray, List.set_cons_zero, List.set_cons_succ]
              refine hSkip (i := 5) (some 27) rfl rfl (by kernel_rfl) (by kernel_rfl) (by kernel_rfl) (fun _ _ _ h => h) (by rfl) (by assumption) ?_
              try simp only [Act.put, List.setIfInBounds_toArray, List.set_cons_zero, List.set_cons_succ]
              refine hSkip (i := 6) (some 28) rfl rfl (by kernel_rfl) (by kernel_rfl) (by kernel_rfl) (fun _ _ _ h => h) (by rfl) (by assumption) ?_
              try simp only [Act.put, List.setIfInBounds_toArray, List.set_cons_zero, List.set_cons_succ]
              refine hSkip (i := 7) (some 29) rfl rfl (by kernel_rfl) (by kernel_rfl) (by kernel_rfl) (fun _ _ _ h => h) (by rfl) (by assumption) ?_
              try simp only [Act.put, List.setIfInBounds_toArray, List.set_cons_zero, List.set_cons_succ]
              refine hSkip (i := 8) (some 30) rfl rfl (by kernel_rfl) (by kernel_rfl) (by kernel_rfl) (fun _ _ _ h => h) (by rfl) (by assumption) ?_
              try simp only [Act.put, List.setIfInBounds_toArray, List.set_cons_zero, List.set_cons_succ]
              refine hSkip (i := 9) (some 31) rfl rfl (by kernel_rfl) (by kernel_rfl) (by kernel_rfl) (fun _ _ _ h => h) (by rfl) (by assumption) ?_
              try simp only [Act.put, List.setIfInBounds_toArray, List.set_cons_zero, List.set_cons_succ]
              refine hSkip (i := 10) (some 32) rfl rfl (by kernel_rfl) (by kernel_rfl) (by kernel_rfl) (fun _ _ _ h => h) (by rfl) (by assumption) ?_
              try simp only [Act.put, List.setIfInBounds_toArray, List.set_cons_zero, List.set_cons_succ]
              refine hSkip (i := 11) (some 33) rfl rfl (by kernel_rfl) (by kernel_rfl) (by kernel_rfl) (fun _ _ _ h => h) (by rfl) (by assumption) ?_
              try simp only [Act.put, List.setIfInBounds_toArray, List.set_cons_zero, List.set_cons_succ]
              refine hSkip (i := 12) (some 34) rfl rfl (by kernel_rfl) (by kernel_rfl) (by kernel_rfl) (fun _ _ _ h => h) (by rfl) (by assumption) ?_
              try simp only [Act.put, List.setIfInBounds_toArray, List.set_cons_zero, List.set_cons_succ]
              refine hSkip (i := 13) (some 35) rfl rfl (by kernel_rfl) (by kernel_rfl) (by kernel_rfl) (fun _ _ _ h => h) (by rfl) (by assumption) ?_
              try simp only [Act.put, List.setIfInBounds_toArray, List.set_cons_zero, List.set_cons_succ]
              refine hSkip (i := 14) (some 36) rfl rfl (by kernel_rfl) (by kernel_rfl) (by kernel_rfl) (fun _ _ _ h => h) (by rfl) (by assumption) ?_
              try simp only [Act.put, List.setIfInBounds_toArray, List.set_cons_zero, List.set_cons_succ]
              refine hSkip (i := 15) (some 37) rfl rfl (by kernel_rfl) (by kernel_rfl) (by kernel_rfl) (fun _ _ _ h => h) (by rfl) (by assumption) ?_
              try simp only [Act.put, List.setIfInBounds_toArray, List.set_cons_zero, List.set_cons_succ]
              refine hSkip (i := 16) (some 38) rfl rfl (by kernel_rfl) (by kernel_rfl) (by kernel_rfl) (fun _ _ _ h => h) (by rfl) (by assumption) ?_
              try simp only [Act.put, List.setIfInBounds_toArray, List.set_cons_zero, List.set_cons_succ]
              refine hTake (i := 17) (v := ?v17a) (some 39) rfl rfl (by kernel_rfl) (by kernel_rfl) (by kernel_rfl) (fun _ _ _ h => h) (by rfl) (by assumption) ?hy17a ?hn17a
              case hy17a => (intro w hSw; (try dsimp only at hSw); go_simp; try with_reducible rfl)
              try simp only [Act.put, List.setIfInBounds_toArray, List.set_cons_zero, List.set_cons_succ]
              refine wpAnyH_done (by kernel_rfl) ?_ _
              have HE : Hid (checkE low l = 2) := hide (by unfold checkE; rw [if_neg (fun h => by have := (goodB_iff.1 h).2.2 0 (by rw [HLN.out]; exact hlt); unfold okAt at this; rw [HX.out, hrb] at this; cases this)])
              have HF : Hid (Below B w wA) := hide (HFIN.out wA hbA)
              clear hbA hrb hHeld
              go_wp2
              go_ret
              exact ⟨by rw [HE.out]; rfl, by rw [HBE.out]; exact HF.out⟩
            · skip
              refine wp_region_held_drew (S := (fun W : World => W.cell? ⟨r, 0, none⟩ = some (.string x.key) ∧ W.cell? ⟨r, 1, none⟩ = some (.int .u64 (x.at_ : Nat)) ∧ W.cell? ⟨r, 2, none⟩ = some (.string x.val) ∧ W.cell? ⟨r, 3, none⟩ = some (.bool x.gone))) (by kernel_rfl) ?hSb (fun hHeld => ?_)
              case hSb => exact HS.out _ B0
              refine hTake (i := 0) (v := ?v0b) (some 22) rfl rfl (by kernel_rfl) (by kernel_rfl) (by kernel_rfl) (fun _ _ _ h => h) (by rfl) (by assumption) ?hy0b ?hn0b
              case hy0b => (intro w hSw; (try dsimp only at hSw); go_simp; try with_reducible rfl)
              try simp only [Act.put, List.setIfInBounds_toArray, List.set_cons_zero, List.set_cons_succ]
              refine hOne (i := 1) rfl (by kernel_rfl) (fun K hK => ?_)
              go_simp
              refine (RT.out _).mono ?_
              rintro e wA ⟨rfl, hbA⟩
              rw [hrb]
              refine hK.out _ _ (HS.out _ hbA) (fun hHeld => ?_)
              clear hK K
              try simp only [Act.put, List.setIfInBounds_toArray, List.set_cons_zero, List.set_cons_succ]
              refine hTake (i := 2) (v := ?v2b) (some 24) rfl rfl (by kernel_rfl) (by kernel_rfl) (by kernel_rfl) (fun _ _ _ h => h) (by rfl) (by assumption) ?hy2b ?hn2b
              case hy2b => (intro w hSw; (try dsimp only at hSw); go_simp; try with_reducible rfl)
              try simp only [Act.put, List.setIfInBounds_toArray, List.set_cons_zero, List.set_cons_succ]
              refine hTake (i := 3) (v := ?v3b) (some 25) rfl rfl (by kernel_rfl) (by kernel_rfl) (by kernel_rfl) (fun _ _ _ h => h) (by rfl) (by assumption) ?hy3b ?hn3b
              case hy3b => (intro w hSw; (try dsimp only at hSw); go_simp; try with_reducible rfl)
              try simp only [Act.put, List.setIfInBounds_toArray, List.set_cons_zero, List.set_cons_succ]
              refine hTake (i := 4) (v := ?v4b) (some 26) rfl rfl (by kernel_rfl) (by kernel_rfl) (by kernel_rfl) (fun _ _ _ h => h) (by rfl) (by assumption) ?hy4b ?hn4b
              case hy4b => (intro w hSw; (try dsimp only at hSw); go_simp; try with_reducible rfl)
              try simp only [Act.put, List.setIfInBounds_toArray, List.set_cons_zero, List.set_cons_succ]
              refine hTake (i := 5) (v := ?v5b) (some 27) rfl rfl (by kernel_rfl) (by kernel_rfl) (by kernel_rfl) (fun _ _ _ h => h) (by rfl) (by assumption) ?hy5b ?hn5b
              case hy5b => (intro w hSw; (try dsimp only at hSw); go_simp; try with_reducible rfl)
              try simp only [Act.put, List.setIfInBounds_toArray, List.set_cons_zero, List.set_cons_succ]
              refine hTake (i := 6) (v := ?v6b) (some 28) rfl rfl (by kernel_rfl) (by kernel_rfl) (by kernel_rfl) (fun _ _ _ h => h) (by rfl) (by assumption) ?hy6b ?hn6b
              case hy6b => (intro w hSw; (try dsimp only at hSw); go_simp; try with_reducible rfl)
              try simp only [Act.put, List.setIfInBounds_toArray, List.set_cons_zero, List.set_cons_succ]
              refine hSkip (i := 7) (some 29) rfl rfl (by kernel_rfl) (by kernel_rfl) (by kernel_rfl) (fun _ _ _ h => h) (by rfl) (by assumption) ?_
              try simp only [Act.put, List.setIfInBounds_toArray, List.set_cons_zero, List.set_cons_succ]
              refine hSkip (i := 8) (some 30) rfl rfl (by kernel_rfl) (by kernel_rfl) (by kernel_rfl) (fun _ _ _ h => h) (by rfl) (by assumption) ?_
              try simp only [Act.put, List.setIfInBounds_toArray, List.set_cons_zero, List.set_cons_succ]
              refine hSkip (i := 9) (some 31) rfl rfl (by kernel_rfl) (by kernel_rfl) (by kernel_rfl) (fun _ _ _ h => h) (by rfl) (by assumption) ?_
              try simp only [Act.put, List.setIfInBounds_toArray, List.set_cons_zero, List.set_cons_succ]
              refine hSkip (i := 10) (some 32) rfl rfl (by kernel_rfl) (by kernel_rfl) (by kernel_rfl) (fun _ _ _ h => h) (by rfl) (by assumption) ?_
              try simp only [Act.put, List.setIfInBounds_toArray, List.set_cons_zero, List.set_cons_succ]
              refine hSkip (i := 11) (some 33) rfl rfl (by kernel_rfl) (by kernel_rfl) (by kernel_rfl) (fun _ _ _ h => h) (by rfl) (by assumption) ?_
              try simp only [Act.put, List.setIfInBounds_toArray, List.set_cons_zero, List.set_cons_succ]
              refine hSkip (i := 12) (some 34) rfl rfl (by kernel_rfl) (by kernel_rfl) (by kernel_rfl) (fun _ _ _ h => h) (by rfl) (by assumption) ?_
              try simp only [Act.put, List.setIfInBounds_toArray, List.set_cons_zero, List.set_cons_succ]
              refine hSkip (i := 13) (some 35) rfl rfl (by kernel_rfl) (by kernel_rfl) (by kernel_rfl) (fun _ _ _ h => h) (by rfl) (by assumption) ?_
              try simp only [Act.put, List.setIfInBounds_toArray, List.set_cons_zero, List.set_cons_succ]
              refine hSkip (i := 14) (some 36) rfl rfl (by kernel_rfl) (by kernel_rfl) (by kernel_rfl) (fun _ _ _ h => h) (by rfl) (by assumption) ?_
              try simp only [Act.put, List.setIfInBounds_toArray, List.set_cons_zero, List.set_cons_succ]
              refine hSkip (i := 15) (some 37) rfl rfl (by kernel_rfl) (by kernel_rfl) (by kernel_rfl) (fun _ _ _ h => h) (by rfl) (by assumption) ?_
              try simp only [Act.put, List.setIfInBounds_toArray, List.set_cons_zero, List.set_cons_succ]
              refine hTake (i := 16) (v := ?v16b) (some 38) rfl rfl (by kernel_rfl) (by kernel_rfl) (by kernel_rfl) (fun _ _ _ h => h) (by rfl) (by assumption) ?hy16b ?hn16b
              case hy16b => (intro w hSw; (try dsimp only at hSw); go_simp; try with_reducible rfl)
              try simp only [Act.put, List.setIfInBounds_toArray, List.set_cons_zero, List.set_cons_succ]
              refine hTake (i := 17) (v := ?v17b) (some 39) rfl rfl (by kernel_rfl) (by kernel_rfl) (by kernel_rfl) (fun _ _ _ h => h) (by rfl) (by assumption) ?hy17b ?hn17b
              case hy17b => (intro w hSw; (try dsimp only at hSw); go_simp; try with_reducible rfl)
              try simp only [Act.put, List.setIfInBounds_toArray, List.set_cons_zero, List.set_cons_succ]
              refine wpAnyH_done (by kernel_rfl) ?_ _
              have HN : Hid (∀ j, j < 0 + 1 → okAt l j = true) := hide (fun j hj => by
                obtain rfl : j = 0 := by omega
                unfold okAt
                rw [HX.out, hrb]
                rfl)
              have HBN : Hid (Below W1.heap.size W1 wA) := hide (HFI1.out wA hbA)
              clear hbA hrb hHeld
              go_wp2
              go_roundw
              case rel => exact ⟨1, by omega, by simp, HN, HBN⟩
              case measure => simp [intOf]; omega
          · obtain ⟨k, rfl⟩ : ∃ k' : Nat, k = k' + 1 := ⟨k - 1, by omega⟩
            obtain ⟨bs', off', e, hbs', y0, y1, y2, y3⟩ := HVW.out.2.2.2 k (by omega)
            cases e
            have HY : Hid (l.getD k Vr0 = l.getD k Vr0) := hide rfl
            generalize hy : l.getD k Vr0 = y at *
            have HYE := hide hy
            have hkn : (k : Int) < len := by omega
            have hwk : IntKind.i64.wrap (k : Int) = (k : Int) := by
              simp [IntKind.wrap, IntKind.bits, IntKind.signed]
              omega
            have hk00 : (0 : Int) ≤ (k : Int) := by omega
            have HLE := hide (fun (W : World) (hW : Below W2.drew.heap.size W2.drew W) => (HRE.out ▸ HB2.out : Below wr.heap.size wr W2.drew).trans (hW.mono (HRE.out ▸ HB2.out : Below wr.heap.size wr W2.drew).size))
            have HCE : Hid (∀ (W : World) (j : Nat), Below W2.drew.heap.size W2.drew W → W.cell? ⟨bs, j, none⟩ = wr.cell? ⟨bs, j, none⟩) := hide (fun W j hW => World.cell?_of_block ((HLE.out W hW).block bs hbs'))
            have HY0 := hide y0
            have HY1 := hide y1
            have HY2 := hide y2
            have HY3 := hide y3
            have HS : Hid (∀ W : World, Below W2.drew.heap.size W2.drew W → W.cell? ⟨r, 0, none⟩ = some (.string x.key) ∧ W.cell? ⟨r, 1, none⟩ = some (.int .u64 (x.at_ : Nat)) ∧ W.cell? ⟨r, 2, none⟩ = some (.string x.val) ∧ W.cell? ⟨r, 3, none⟩ = some (.bool x.gone) ∧ W.cell? ⟨B, 0, none⟩ = some (.slice (some ⟨bs, off, none⟩) len cap) ∧ W.cell? ⟨bs, off + k * 4, none⟩ = some (.string y.key) ∧ W.cell? ⟨bs, off + k * 4 + 1, none⟩ = some (.int .u64 (y.at_ : Nat)) ∧ W.cell? ⟨bs, off + k * 4 + 2, none⟩ = some (.string y.val) ∧ W.cell? ⟨bs, off + k * 4 + 3, none⟩ = some (.bool y.gone)) := hide (fun W hW => by
              have h := (hW.block r (heap_lt HX2.out)).trans HX2.out
              have h3 := (hW.block B (heap_lt HX3.out)).trans HX3.out
              exact ⟨cell_blk h rfl, cell_blk h rfl, cell_blk h rfl, cell_blk h rfl, cell_blk h3 rfl, (HCE.out W _ hW).trans HY0.out, (HCE.out W _ hW).trans HY1.out, (HCE.out W _ hW).trans HY2.out, (HCE.out W _ hW).trans HY3.out⟩)
            have RB := hide (fun W => behind_any y x W)
            clear hy y0 y1 y2 y3 HY
            cases hrb : rightB x
            · skip
              refine wp_region_held_drew (S := (fun W : World => W.cell? ⟨r, 0, none⟩ = some (.string x.key) ∧ W.cell? ⟨r, 1, none⟩ = some (.int .u64 (x.at_ : Nat)) ∧ W.cell? ⟨r, 2, none⟩ = some (.string x.val) ∧ W.cell? ⟨r, 3, none⟩ = some (.bool x.gone) ∧ W.cell? ⟨B, 0, none⟩ = some (.slice (some ⟨bs, off, none⟩) len cap) ∧ W.cell? ⟨bs, off + k * 4, none⟩ = some (.string y.key) ∧ W.cell? ⟨bs, off + k * 4 + 1, none⟩ = some (.int .u64 (y.at_ : Nat)) ∧ W.cell? ⟨bs, off + k * 4 + 2, none⟩ = some (.string y.val) ∧ W.cell? ⟨bs, off + k * 4 + 3, none⟩ = some (.bool y.gone))) (by kernel_rfl) ?hSc (fun hHeld => ?_)
              case hSc => exact HS.out _ B0
              refine hTake (i := 0) (v := ?v0c) (some 22) rfl rfl (by kernel_rfl) (by kernel_rfl) (by kernel_rfl) (fun _ _ _ h => h) (by rfl) (by assumption) ?hy0c ?hn0c
              case hy0c => (intro w hSw; (try dsimp only at hSw); go_simp; try with_reducible rfl)
              try simp only [Act.put, List.setIfInBounds_toArray, List.set_cons_zero, List.set_cons_succ]
              refine hOne (i := 1) rfl (by kernel_rfl) (fun K hK => ?_)
              go_simp
              refine (RT.out _).mono ?_
              rintro e wA ⟨rfl, hbA⟩
              rw [hrb]
              refine hK.out _ _ (HS.out _ hbA) (fun hHeld => ?_)
              clear hK K
              try simp only [Act.put, List.setIfInBounds_toArray, List.set_cons_zero, List.set_cons_succ]
              refine hTake (i := 2) (v := ?v2c) (some 24) rfl rfl (by kernel_rfl) (by kernel_rfl) (by kernel_rfl) (fun _ _ _ h => h) (by rfl) (by assumption) ?hy2c ?hn2c
              case hy2c => (intro w hSw; (try dsimp only at hSw); go_simp; try with_reducible rfl)
              try simp only [Act.put, List.setIfInBounds_toArray, List.set_cons_zero, List.set_cons_succ]
              refine hTake (i := 3) (v := ?v3c) (some 25) rfl rfl (by kernel_rfl) (by kernel_rfl) (by kernel_rfl) (fun _ _ _ h => h) (by rfl) (by assumption) ?hy3c ?hn3c
              case hy3c => (intro w hSw; (try dsimp only at hSw); go_simp; try with_reducible rfl)
              try simp only [Act.put, List.setIfInBounds_toArray, List.set_cons_zero, List.set_cons_succ]
              refine hSkip (i := 4) (some 26) rfl rfl (by kernel_rfl) (by kernel_rfl) (by kernel_rfl) (fun _ _ _ h => h) (by rfl) (by assumption) ?_
              try simp only [Act.put, List.setIfInBounds_toArray, List.set_cons_zero, List.set_cons_succ]
              refine hSkip (i := 5) (some 27) rfl rfl (by kernel_rfl) (by kernel_rfl) (by kernel_rfl) (fun _ _ _ h => h) (by rfl) (by assumption) ?_
              try simp only [Act.put, List.setIfInBounds_toArray, List.set_cons_zero, List.set_cons_succ]
              refine hSkip (i := 6) (some 28) rfl rfl (by kernel_rfl) (by kernel_rfl) (by kernel_rfl) (fun _ _ _ h => h) (by rfl) (by assumption) ?_
              try simp only [Act.put, List.setIfInBounds_toArray, List.set_cons_zero, List.set_cons_succ]
              refine hSkip (i := 7) (some 29) rfl rfl (by kernel_rfl) (by kernel_rfl) (by kernel_rfl) (fun _ _ _ h => h) (by rfl) (by assumption) ?_
              try simp only [Act.put, List.setIfInBounds_toArray, List.set_cons_zero, List.set_cons_succ]
              refine hSkip (i := 8) (some 30) rfl rfl (by kernel_rfl) (by kernel_rfl) (by kernel_rfl) (fun _ _ _ h => h) (by rfl) (by assumption) ?_
              try simp only [Act.put, List.setIfInBounds_toArray, List.set_cons_zero, List.set_cons_succ]
              refine hSkip (i := 9) (some 31) rfl rfl (by kernel_rfl) (by kernel_rfl) (by kernel_rfl) (fun _ _ _ h => h) (by rfl) (by assumption) ?_
              try simp only [Act.put, List.setIfInBounds_toArray, List.set_cons_zero, List.set_cons_succ]
              refine hSkip (i := 10) (some 32) rfl rfl (by kernel_rfl) (by kernel_rfl) (by kernel_rfl) (fun _ _ _ h => h) (by rfl) (by assumption) ?_
              try simp only [Act.put, List.setIfInBounds_toArray, List.set_cons_zero, List.set_cons_succ]
              refine hSkip (i := 11) (some 33) rfl rfl (by kernel_rfl) (by kernel_rfl) (by kernel_rfl) (fun _ _ _ h => h) (by rfl) (by assumption) ?_
              try simp only [Act.put, List.setIfInBounds_toArray, List.set_cons_zero, List.set_cons_succ]
              refine hSkip (i := 12) (some 34) rfl rfl (by kernel_rfl) (by kernel_rfl) (by kernel_rfl) (fun _ _ _ h => h) (by rfl) (by assumption) ?_
              try simp only [Act.put, List.setIfInBounds_toArray, List.set_cons_zero, List.set_cons_succ]
              refine hSkip (i := 13) (some 35) rfl rfl (by kernel_rfl) (by kernel_rfl) (by kernel_rfl) (fun _ _ _ h => h) (by rfl) (by assumption) ?_
              try simp only [Act.put, List.setIfInBounds_toArray, List.set_cons_zero, List.set_cons_succ]
              refine hSkip (i := 14) (some 36) rfl rfl (by kernel_rfl) (by kernel_rfl) (by kernel_rfl) (fun _ _ _ h => h) (by rfl) (by assumption) ?_
              try simp only [Act.put, List.setIfInBounds_toArray, List.set_cons_zero, List.set_cons_succ]
              refine hSkip (i := 15) (some 37) rfl rfl (by kernel_rfl) (by kernel_rfl) (by kernel_rfl) (fun _ _ _ h => h) (by rfl) (by assumption) ?_
              try simp only [Act.put, List.setIfInBounds_toArray, List.set_cons_zero, List.set_cons_succ]
              refine hSkip (i := 16) (some 38) rfl rfl (by kernel_rfl) (by kernel_rfl) (by kernel_rfl) (fun _ _ _ h => h) (by rfl) (by assumption) ?_
              try simp only [Act.put, List.setIfInBounds_toArray, List.set_cons_zero, List.set_cons_succ]
              refine hTake (i := 17) (v := ?v17c) (some 39) rfl rfl (by kernel_rfl) (by kernel_rfl) (by kernel_rfl) (fun _ _ _ h => h) (by rfl) (by assumption) ?hy17c ?hn17c
              case hy17c => (intro w hSw; (try dsimp only at hSw); go_simp; try with_reducible rfl)
              try simp only [Act.put, List.setIfInBounds_toArray, List.set_cons_zero, List.set_cons_succ]
              refine wpAnyH_done (by kernel_rfl) ?_ _
              have HE : Hid (checkE low l = 2) := hide (by unfold checkE; rw [if_neg (fun h => by have := (goodB_iff.1 h).2.2 (k + 1) (by rw [HLN.out]; exact hlt); unfold okAt at this; rw [HX.out, hrb] at this; cases this)])
              have HF : Hid (Below B w wA) := hide (HFIN.out wA hbA)
              clear hbA hrb hHeld
              go_wp2
              go_ret
              exact ⟨by rw [HE.out]; rfl, by rw [HBE.out]; exact HF.out⟩
            · cases hbb : behindB y x
              · skip
                refine wp_region_held_drew (S := (fun W : World => W.cell? ⟨r, 0, none⟩ = some (.string x.key) ∧ W.cell? ⟨r, 1, none⟩ = some (.int .u64 (x.at_ : Nat)) ∧ W.cell? ⟨r, 2, none⟩ = some (.string x.val) ∧ W.cell? ⟨r, 3, none⟩ = some (.bool x.gone) ∧ W.cell? ⟨B, 0, none⟩ = some (.slice (some ⟨bs, off, none⟩) len cap) ∧ W.cell? ⟨bs, off + k * 4, none⟩ = some (.string y.key) ∧ W.cell? ⟨bs, off + k * 4 + 1, none⟩ = some (.int .u64 (y.at_ : Nat)) ∧ W.cell? ⟨bs, off + k * 4 + 2, none⟩ = some (.string y.val) ∧ W.cell? ⟨bs, off + k * 4 + 3, none⟩ = some (.bool y.gone))) (by kernel_rfl) ?hSd (fun hHeld => ?_)
                case hSd => exact HS.out _ B0
                refine hTake (i := 0) (v := ?v0d) (some 22) rfl rfl (by kernel_rfl) (by kernel_rfl) (by kernel_rfl) (fun _ _ _ h => h) (by rfl) (by assumption) ?hy0d ?hn0d
                case hy0d => (intro w hSw; (try dsimp only at hSw); go_simp; try with_reducible rfl)
                try simp only [Act.put, List.setIfInBounds_toArray, List.set_cons_zero, List.set_cons_succ]
                refine hOne (i := 1) rfl (by kernel_rfl) (fun K hK => ?_)
                go_simp
                refine (RT.out _).mono ?_
                rintro e wA ⟨rfl, hbA⟩
                rw [hrb]
                refine hK.out _ _ (HS.out _ hbA) (fun hHeld => ?_)
                clear hK K
                try simp only [Act.put, List.setIfInBounds_toArray, List.set_cons_zero, List.set_cons_succ]
                refine hTake (i := 2) (v := ?v2d) (some 24) rfl rfl (by kernel_rfl) (by kernel_rfl) (by kernel_rfl) (fun _ _ _ h => h) (by rfl) (by assumption) ?hy2d ?hn2d
                case hy2d => (intro w hSw; (try dsimp only at hSw); go_simp; try with_reducible rfl)
                try simp only [Act.put, List.setIfInBounds_toArray, List.set_cons_zero, List.set_cons_succ]
                refine hTake (i := 3) (v := ?v3d) (some 25) rfl rfl (by kernel_rfl) (by kernel_rfl) (by kernel_rfl) (fun _ _ _ h => h) (by rfl) (by assumption) ?hy3d ?hn3d
                case hy3d => (intro w hSw; (try dsimp only at hSw); go_simp; try with_reducible rfl)
                try simp only [Act.put, List.setIfInBounds_toArray, List.set_cons_zero, List.set_cons_succ]
                refine hTake (i := 4) (v := ?v4d) (some 26) rfl rfl (by kernel_rfl) (by kernel_rfl) (by kernel_rfl) (fun _ _ _ h => h) (by rfl) (by assumption) ?hy4d ?hn4d
                case hy4d => (intro w hSw; (try dsimp only at hSw); go_simp; try with_reducible rfl)
                try simp only [Act.put, List.setIfInBounds_toArray, List.set_cons_zero, List.set_cons_succ]
                refine hTake (i := 5) (v := ?v5d) (some 27) rfl rfl (by kernel_rfl) (by kernel_rfl) (by kernel_rfl) (fun _ _ _ h => h) (by rfl) (by assumption) ?hy5d ?hn5d
                case hy5d => (intro w hSw; (try dsimp only at hSw); go_simp; try with_reducible rfl)
                try simp only [Act.put, List.setIfInBounds_toArray, List.set_cons_zero, List.set_cons_succ]
                refine hTake (i := 6) (v := ?v6d) (some 28) rfl rfl (by kernel_rfl) (by kernel_rfl) (by kernel_rfl) (fun _ _ _ h => h) (by rfl) (by assumption) ?hy6d ?hn6d
                case hy6d => (intro w hSw; (try dsimp only at hSw); go_simp; try with_reducible rfl)
                try simp only [Act.put, List.setIfInBounds_toArray, List.set_cons_zero, List.set_cons_succ]
                refine hTake (i := 7) (v := ?v7d) (some 29) rfl rfl (by kernel_rfl) (by kernel_rfl) (by kernel_rfl) (fun _ _ _ h => h) (by rfl) (by assumption) ?hy7d ?hn7d
                case hy7d => (intro w hSw; (try dsimp only at hSw); go_simp; try with_reducible rfl)
                try simp only [Act.put, List.setIfInBounds_toArray, List.set_cons_zero, List.set_cons_succ]
                refine hTake (i := 8) (v := ?v8d) (some 30) rfl rfl (by kernel_rfl) (by kernel_rfl) (by kernel_rfl) (fun _ _ _ h => h) (by rfl) (by assumption) ?hy8d ?hn8d
                case hy8d => (intro w hSw; (try dsimp only at hSw); go_simp; try with_reducible rfl)
                try simp only [Act.put, List.setIfInBounds_toArray, List.set_cons_zero, List.set_cons_succ]
                refine hTake (i := 9) (v := ?v9d) (some 31) rfl rfl (by kernel_rfl) (by kernel_rfl) (by kernel_rfl) (fun _ _ _ h => h) (by rfl) (by assumption) ?hy9d ?hn9d
                case hy9d => (intro w hSw; (try dsimp only at hSw); go_simp; try with_reducible rfl)
                try simp only [Act.put, List.setIfInBounds_toArray, List.set_cons_zero, List.set_cons_succ]
                refine hTake (i := 10) (v := ?v10d) (some 32) rfl rfl (by kernel_rfl) (by kernel_rfl) (by kernel_rfl) (fun _ _ _ h => h) (by rfl) (by assumption) ?hy10d ?hn10d
                case hy10d => (intro w hSw; (try dsimp only at hSw); go_simp; try with_reducible rfl)
                try simp only [Act.put, List.setIfInBounds_toArray, List.set_cons_zero, List.set_cons_succ]
                refine hTake (i := 11) (v := ?v11d) (some 33) rfl rfl (by kernel_rfl) (by kernel_rfl) (by kernel_rfl) (fun _ _ _ h => h) (by rfl) (by assumption) ?hy11d ?hn11d
                case hy11d => (intro w hSw; (try dsimp only at hSw); go_simp; try with_reducible rfl)
                try simp only [Act.put, List.setIfInBounds_toArray, List.set_cons_zero, List.set_cons_succ]
                refine hTake (i := 12) (v := ?v12d) (some 34) rfl rfl (by kernel_rfl) (by kernel_rfl) (by kernel_rfl) (fun _ _ _ h => h) (by rfl) (by assumption) ?hy12d ?hn12d
                case hy12d => (intro w hSw; (try dsimp only at hSw); go_simp; try with_reducible rfl)
                try simp only [Act.put, List.setIfInBounds_toArray, List.set_cons_zero, List.set_cons_succ]
                refine hTake (i := 13) (v := ?v13d) (some 35) rfl rfl (by kernel_rfl) (by kernel_rfl) (by kernel_rfl) (fun _ _ _ h => h) (by rfl) (by assumption) ?hy13d ?hn13d
                case hy13d => (intro w hSw; (try dsimp only at hSw); go_simp; try with_reducible rfl)
                try simp only [Act.put, List.setIfInBounds_toArray, List.set_cons_zero, List.set_cons_succ]
                refine hOne (i := 14) rfl (by kernel_rfl) (fun K hK => ?_)
                go_simp
                refine (RB.out _).mono ?_
                rintro e wB ⟨rfl, hbB0⟩
                have hbB : Below W2.drew.heap.size W2.drew wB := hbA.trans (hbB0.mono hbA.size)
                rw [hbb]
                refine hK.out _ _ (HS.out _ hbB) (fun hHeld => ?_)
                clear hK K
                try simp only [Act.put, List.setIfInBounds_toArray, List.set_cons_zero, List.set_cons_succ]
                refine hTake (i := 15) (v := ?v15d) (some 37) rfl rfl (by kernel_rfl) (by kernel_rfl) (by kernel_rfl) (fun _ _ _ h => h) (by rfl) (by assumption) ?hy15d ?hn15d
                case hy15d => (intro w hSw; (try dsimp only at hSw); go_simp; try with_reducible rfl)
                try simp only [Act.put, List.setIfInBounds_toArray, List.set_cons_zero, List.set_cons_succ]
                refine hTake (i := 16) (v := ?v16d) (some 38) rfl rfl (by kernel_rfl) (by kernel_rfl) (by kernel_rfl) (fun _ _ _ h => h) (by rfl) (by assumption) ?hy16d ?hn16d
                case hy16d => (intro w hSw; (try dsimp only at hSw); go_simp; try with_reducible rfl)
                try simp only [Act.put, List.setIfInBounds_toArray, List.set_cons_zero, List.set_cons_succ]
                refine hTake (i := 17) (v := ?v17d) (some 39) rfl rfl (by kernel_rfl) (by kernel_rfl) (by kernel_rfl) (fun _ _ _ h => h) (by rfl) (by assumption) ?hy17d ?hn17d
                case hy17d => (intro w hSw; (try dsimp only at hSw); go_simp; try with_reducible rfl)
                try simp only [Act.put, List.setIfInBounds_toArray, List.set_cons_zero, List.set_cons_succ]
                refine wpAnyH_done (by kernel_rfl) ?_ _
                have HE : Hid (checkE low l = 2) := hide (by unfold checkE; rw [if_neg (fun h => by have := (goodB_iff.1 h).2.2 (k + 1) (by rw [HLN.out]; exact hlt); unfold okAt at this; rw [HX.out, hrb, Nat.add_sub_cancel, HYE.out, hbb] at this; simp at this)])
                have HF : Hid (Below B w wB) := hide (HFIN.out wB hbB)
                clear hbA hbB hbB0 hrb hbb hHeld
                go_wp2
                go_ret
                exact ⟨by rw [HE.out]; rfl, by rw [HBE.out]; exact HF.out⟩
              · skip
                refine wp_region_held_drew (S := (fun W : World => W.cell? ⟨r, 0, none⟩ = some (.string x.key) ∧ W.cell? ⟨r, 1, none⟩ = some (.int .u64 (x.at_ : Nat)) ∧ W.cell? ⟨r, 2, none⟩ = some (.string x.val) ∧ W.cell? ⟨r, 3, none⟩ = some (.bool x.gone) ∧ W.cell? ⟨B, 0, none⟩ = some (.slice (some ⟨bs, off, none⟩) len cap) ∧ W.cell? ⟨bs, off + k * 4, none⟩ = some (.string y.key) ∧ W.cell? ⟨bs, off + k * 4 + 1, none⟩ = some (.int .u64 (y.at_ : Nat)) ∧ W.cell? ⟨bs, off + k * 4 + 2, none⟩ = some (.string y.val) ∧ W.cell? ⟨bs, off + k * 4 + 3, none⟩ = some (.bool y.gone))) (by kernel_rfl) ?hSe (fun hHeld => ?_)
                case hSe => exact HS.out _ B0
                refine hTake (i := 0) (v := ?v0e) (some 22) rfl rfl (by kernel_rfl) (by kernel_rfl) (by kernel_rfl) (fun _ _ _ h => h) (by rfl) (by assumption) ?hy0e ?hn0e
                case hy0e => (intro w hSw; (try dsimp only at hSw); go_simp; try with_reducible rfl)
                try simp only [Act.put, List.setIfInBounds_toArray, List.set_cons_zero, List.set_cons_succ]
                refine hOne (i := 1) rfl (by kernel_rfl) (fun K hK => ?_)
                go_simp
                refine (RT.out _).mono ?_
                rintro e wA ⟨rfl, hbA⟩
                rw [hrb]
                refine hK.out _ _ (HS.out _ hbA) (fun hHeld => ?_)
                clear hK K
                try simp only [Act.put, List.setIfInBounds_toArray, List.set_cons_zero, List.set_cons_succ]
                refine hTake (i := 2) (v := ?v2e) (some 24) rfl rfl (by kernel_rfl) (by kernel_rfl) (by kernel_rfl) (fun _ _ _ h => h) (by rfl) (by assumption) ?hy2e ?hn2e
                case hy2e => (intro w hSw; (try dsimp only at hSw); go_simp; try with_reducible rfl)
                try simp only [Act.put, List.setIfInBounds_toArray, List.set_cons_zero, List.set_cons_succ]
                refine hTake (i := 3) (v := ?v3e) (some 25) rfl rfl (by kernel_rfl) (by kernel_rfl) (by kernel_rfl) (fun _ _ _ h => h) (by rfl) (by assumption) ?hy3e ?hn3e
                case hy3e => (intro w hSw; (try dsimp only at hSw); go_simp; try with_reducible rfl)
                try simp only [Act.put, List.setIfInBounds_toArray, List.set_cons_zero, List.set_cons_succ]
                refine hTake (i := 4) (v := ?v4e) (some 26) rfl rfl (by kernel_rfl) (by kernel_rfl) (by kernel_rfl) (fun _ _ _ h => h) (by rfl) (by assumption) ?hy4e ?hn4e
                case hy4e => (intro w hSw; (try dsimp only at hSw); go_simp; try with_reducible rfl)
                try simp only [Act.put, List.setIfInBounds_toArray, List.set_cons_zero, List.set_cons_succ]
                refine hTake (i := 5) (v := ?v5e) (some 27) rfl rfl (by kernel_rfl) (by kernel_rfl) (by kernel_rfl) (fun _ _ _ h => h) (by rfl) (by assumption) ?hy5e ?hn5e
                case hy5e => (intro w hSw; (try dsimp only at hSw); go_simp; try with_reducible rfl)
                try simp only [Act.put, List.setIfInBounds_toArray, List.set_cons_zero, List.set_cons_succ]
                refine hTake (i := 6) (v := ?v6e) (some 28) rfl rfl (by kernel_rfl) (by kernel_rfl) (by kernel_rfl) (fun _ _ _ h => h) (by rfl) (by assumption) ?hy6e ?hn6e
                case hy6e => (intro w hSw; (try dsimp only at hSw); go_simp; try with_reducible rfl)
                try simp only [Act.put, List.setIfInBounds_toArray, List.set_cons_zero, List.set_cons_succ]
                refine hTake (i := 7) (v := ?v7e) (some 29) rfl rfl (by kernel_rfl) (by kernel_rfl) (by kernel_rfl) (fun _ _ _ h => h) (by rfl) (by assumption) ?hy7e ?hn7e
                case hy7e => (intro w hSw; (try dsimp only at hSw); go_simp; try with_reducible rfl)
                try simp only [Act.put, List.setIfInBounds_toArray, List.set_cons_zero, List.set_cons_succ]
                refine hTake (i := 8) (v := ?v8e) (some 30) rfl rfl (by kernel_rfl) (by kernel_rfl) (by kernel_rfl) (fun _ _ _ h => h) (by rfl) (by assumption) ?hy8e ?hn8e
                case hy8e => (intro w hSw; (try dsimp only at hSw); go_simp; try with_reducible rfl)
                try simp only [Act.put, List.setIfInBounds_toArray, List.set_cons_zero, List.set_cons_succ]
                refine hTake (i := 9) (v := ?v9e) (some 31) rfl rfl (by kernel_rfl) (by kernel_rfl) (by kernel_rfl) (fun _ _ _ h => h) (by rfl) (by assumption) ?hy9e ?hn9e
                case hy9e => (intro w hSw; (try dsimp only at hSw); go_simp; try with_reducible rfl)
                try simp only [Act.put, List.setIfInBounds_toArray, List.set_cons_zero, List.set_cons_succ]
                refine hTake (i := 10) (v := ?v10e) (some 32) rfl rfl (by kernel_rfl) (by kernel_rfl) (by kernel_rfl) (fun _ _ _ h => h) (by rfl) (by assumption) ?hy10e ?hn10e
                case hy10e => (intro w hSw; (try dsimp only at hSw); go_simp; try with_reducible rfl)
                try simp only [Act.put, List.setIfInBounds_toArray, List.set_cons_zero, List.set_cons_succ]
                refine hTake (i := 11) (v := ?v11e) (some 33) rfl rfl (by kernel_rfl) (by kernel_rfl) (by kernel_rfl) (fun _ _ _ h => h) (by rfl) (by assumption) ?hy11e ?hn11e
                case hy11e => (intro w hSw; (try dsimp only at hSw); go_simp; try with_reducible rfl)
                try simp only [Act.put, List.setIfInBounds_toArray, List.set_cons_zero, List.set_cons_succ]
                refine hTake (i := 12) (v := ?v12e) (some 34) rfl rfl (by kernel_rfl) (by kernel_rfl) (by kernel_rfl) (fun _ _ _ h => h) (by rfl) (by assumption) ?hy12e ?hn12e
                case hy12e => (intro w hSw; (try dsimp only at hSw); go_simp; try with_reducible rfl)
                try simp only [Act.put, List.setIfInBounds_toArray, List.set_cons_zero, List.set_cons_succ]
                refine hTake (i := 13) (v := ?v13e) (some 35) rfl rfl (by kernel_rfl) (by kernel_rfl) (by kernel_rfl) (fun _ _ _ h => h) (by rfl) (by assumption) ?hy13e ?hn13e
                case hy13e => (intro w hSw; (try dsimp only at hSw); go_simp; try with_reducible rfl)
                try simp only [Act.put, List.setIfInBounds_toArray, List.set_cons_zero, List.set_cons_succ]
                refine hOne (i := 14) rfl (by kernel_rfl) (fun K hK => ?_)
                go_simp
                refine (RB.out _).mono ?_
                rintro e wB ⟨rfl, hbB0⟩
                have hbB : Below W2.drew.heap.size W2.drew wB := hbA.trans (hbB0.mono hbA.size)
                rw [hbb]
                refine hK.out _ _ (HS.out _ hbB) (fun hHeld => ?_)
                clear hK K
                try simp only [Act.put, List.setIfInBounds_toArray, List.set_cons_zero, List.set_cons_succ]
                refine hTake (i := 15) (v := ?v15e) (some 37) rfl rfl (by kernel_rfl) (by kernel_rfl) (by kernel_rfl) (fun _ _ _ h => h) (by rfl) (by assumption) ?hy15e ?hn15e
                case hy15e => (intro w hSw; (try dsimp only at hSw); go_simp; try with_reducible rfl)
                try simp only [Act.put, List.setIfInBounds_toArray, List.set_cons_zero, List.set_cons_succ]
                refine hTake (i := 16) (v := ?v16e) (some 38) rfl rfl (by kernel_rfl) (by kernel_rfl) (by kernel_rfl) (fun _ _ _ h => h) (by rfl) (by assumption) ?hy16e ?hn16e
                case hy16e => (intro w hSw; (try dsimp only at hSw); go_simp; try with_reducible rfl)
                try simp only [Act.put, List.setIfInBounds_toArray, List.set_cons_zero, List.set_cons_succ]
                refine hTake (i := 17) (v := ?v17e) (some 39) rfl rfl (by kernel_rfl) (by kernel_rfl) (by kernel_rfl) (fun _ _ _ h => h) (by rfl) (by assumption) ?hy17e ?hn17e
                case hy17e => (intro w hSw; (try dsimp only at hSw); go_simp; try with_reducible rfl)
                try simp only [Act.put, List.setIfInBounds_toArray, List.set_cons_zero, List.set_cons_succ]
                refine wpAnyH_done (by kernel_rfl) ?_ _
                have HN : Hid (∀ j, j < k + 1 + 1 → okAt l j = true) := hide (fun j hj => by
                  by_cases e : j = k + 1
                  · subst e
                    unfold okAt
                    rw [HX.out, hrb, Nat.add_sub_cancel, HYE.out, hbb]
                    simp
                  · exact HA.out j (by omega))
                have HBN : Hid (Below W1.heap.size W1 wB) := hide (HFI1.out wB hbB)
                clear hbA hbB hbB0 hrb hbb hHeld
                go_wp2
                go_roundw
                case rel => exact ⟨k + 1 + 1, by omega, by simp, HN, HBN⟩
                case measure => simp [intOf]; omega
        · obtain rfl : k = len := by omega
          have HE : Hid (checkE low l = 0) := hide (by unfold checkE; rw [if_pos (goodB_iff.2 ⟨by rw [HLN.out]; exact h1, HL2.out, by rw [HLN.out]; exact HA.out⟩)])
          have HF : Hid (Below B w wr) := hide (HB1.out.trans (HB.out.mono (by have := HB1.out.size; have := HBE.out; omega)))
          go_wp2
          go_ret
          exact ⟨by rw [HE.out]; rfl, by rw [HBE.out]; exact HF.out⟩
    · have d2 : decide ((2305843009213693952 : Int) < (low : Int)) = true := decide_eq_true (by omega)
      have HE : Hid (checkE low l = 2) := hide (by unfold checkE; rw [if_neg (fun h => h2 (goodB_iff.1 h).2.1)])
      clear h2
      go_enter Tryz.func93, Tryz.ntmps93
      go_wp2
      go_ret
      exact ⟨by rw [HE.out]; rfl, HAL.out _⟩
  · have d1 : decide ((4096 : Int) < (len : Int)) = true := decide_eq_true (by omega)
    have HE : Hid (checkE low l = 2) := hide (by unfold checkE; rw [if_neg (fun h => h1 (by have := (goodB_iff.1 h).1; rw [HLN.out] at this; exact this))])
    clear h1
    go_enter Tryz.func93, Tryz.ntmps93
    go_wp2
    go_ret
    exact ⟨by rw [HE.out]; rfl, HAL.out _⟩
end Go.Proofs.YtlkmcbelmldleaaGreat
