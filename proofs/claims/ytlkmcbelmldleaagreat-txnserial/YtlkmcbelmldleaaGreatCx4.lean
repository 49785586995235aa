/- Tu2 -/
import Derived.Test.YtlkmcbelmldleaaGreatCx3
import Derived.Test.YtlkmcbelmldleaaGreatCx1
import Derived.Test.YtlkmcbelmldleaaGreatCx2
/- Commit: with writes -/
namespace Go.Proofs.YtlkmcbelmldleaaGreat
open Go.RowKit
open Go.Maps (Keyed has size)
set_option maxRecDepth 40000
theorem hTwo {P : Program} {ops : Array Oper} {Q : Exit → Act → World → Prop} {md : Region.Mode} {S : World → Prop} {i j : Nat} {o o' : Oper} {fuel : Nat} {listed : Array Bool} {a : Act} {w : World} (ho : ops[i]? = some o) (ho' : ops[j]? = some o') (hr : Region.ready md ops listed = [i, j])
    (h : ∀ K' : Act → World → Prop, Shut (∀ a w, S w → (S w → wpAnyH P md ops Q S fuel (listed.setIfInBounds i true) a w) → K' a w) → if Region.wanted o (yielded ops a.tmps) = true then Oper.wp P o a w K' Q else K' (a.put o.dst undef) w)
    (h' : ∀ K' : Act → World → Prop, Shut (∀ a w, S w → (S w → wpAnyH P md ops Q S fuel (listed.setIfInBounds j true) a w) → K' a w) → if Region.wanted o' (yielded ops a.tmps) = true then Oper.wp P o' a w K' Q else K' (a.put o'.dst undef) w) : wpAnyH P md ops Q S (fuel + 1) listed a w :=
  wpAnyH_ready hr (by simp) (AllReadyH.cons ho h (AllReadyH.cons ho' h' AllReadyH.nil))
theorem own_isW {w : World} {base : Nat} {n c : Nat} {a : Option Addr} {l : List Wt} (hl : l.length = n) (h : w.ownsRow base 64 3 (.slice a n c) n (l.flatMap wtc)) : IsW w a n c l := by
  rcases h.2 with ⟨e, hn⟩ | ⟨g, cap, cur, e, _, hg, h1, h2, h3, h4⟩
  · cases e
    exact ⟨hl, Nat.le_refl _, Nat.zero_le _, fun i hi => absurd hi (Nat.not_lt_zero _)⟩
  · cases e
    refine ⟨hl, h1, h2, fun i hi => ⟨g, 0, rfl, heap_lt hg, ?_, ?_, ?_⟩⟩
    · exact own_cells wtc Wt0 3 (fun _ => rfl) hl hg h3 h4 i 0 hi (by omega)
    · exact own_cells wtc Wt0 3 (fun _ => rfl) hl hg h3 h4 i 1 hi (by omega)
    · exact own_cells wtc Wt0 3 (fun _ => rfl) hl hg h3 h4 i 2 hi (by omega)
theorem comM_opn (ms : Mg) (tr : Tr) : (comM ms tr).opn = ms.opn := by
  unfold comM; split <;> rfl
set_option maxHeartbeats 8000000 in
theorem commit_put (w : World) (g ob : Nat) (ps : List Pl) (ms : Mg) (h : IsM w g ob ps ms) (i n : Nat) (tr : Tr) (l : Pl) (h1 : ms.opn[i]? = some (n, tr)) (h2 : ps[i]? = some l) (hc : conflB ms.vs tr = false) (hw : ¬ tr.ws = []) (hle : tr.ws.length ≤ 256) (hnow : ms.now + 1 < 18446744073709551616) :
    Calls Tryz.prog 33 #[.pointer (some ⟨g, 0, none⟩), .int .i64 (n : Int)] w fun e w' => ∃ v, e = .returned (.tuple #[v, .int .u64 (comT ms tr : Nat), .int .i64 (comE ms tr)]) ∧ w'.ownsRow w.heap.size 64 3 v (comW ms tr).length ((comW ms tr).flatMap wtc) ∧ IsM w' g ob (ps.eraseIdx i) ((comM ms tr).ended i) ∧ Frm (fun j => j = g ∨ j = ob) w w' ∧ ∀ b, VB w' g b → (VB w g b ∨ w.heap.size ≤ b) ∧ v.ownBlock ≠ some b := by
  have HWN : Hid (IntKind.u64.wrap ((ms.now : Int) + 1) = (ms.now : Int) + 1) := hide (by rw [IntKind.wrap_u64]; omega)
  have HSAYS : Hid (((putR ms.low ms.vs tr.ws (ms.now + 1)).2.2 = 0 → comE ms tr = 0 ∧ comM ms tr = { ms with low := (putR ms.low ms.vs tr.ws (ms.now + 1)).2.1, vs := (putR ms.low ms.vs tr.ws (ms.now + 1)).1, now := ms.now + 1 } ∧ comT ms tr = ms.now + 1 ∧ comW ms tr = tr.ws) ∧ (¬ (putR ms.low ms.vs tr.ws (ms.now + 1)).2.2 = 0 → comE ms tr = (putR ms.low ms.vs tr.ws (ms.now + 1)).2.2 ∧ comM ms tr = ms ∧ comT ms tr = 0 ∧ comW ms tr = [])) := hide (by
    have hcn : ¬ conflB ms.vs tr = true := by rw [hc]; simp
    have e0 : comE ms tr = (putR ms.low ms.vs tr.ws (ms.now + 1)).2.2 := (if_neg hcn).trans (if_neg hw)
    refine ⟨fun hz => ?_, fun hz => ?_⟩
    · have em : comM ms tr = { ms with low := (putR ms.low ms.vs tr.ws (ms.now + 1)).2.1, vs := (putR ms.low ms.vs tr.ws (ms.now + 1)).1, now := ms.now + 1 } := if_neg (fun h => h.elim hcn (fun h => h.elim hw (fun h => h hz)))
      have ez : comE ms tr = 0 := e0.trans hz
      exact ⟨ez, em, by unfold comT; rw [if_pos ez, em], if_pos ez⟩
    · have ez : ¬ comE ms tr = 0 := by rw [e0]; exact hz
      exact ⟨e0, if_pos (.inr (.inr hz)), if_neg ez, if_neg ez⟩)
  have hlI : ¬ (tr.ws.length : Int) = 0 := by
    have : tr.ws.length ≠ 0 := fun e => hw (List.eq_nil_of_length_eq_zero e)
    omega
  have hl2 : ((tr.ws.length : Int) == 0) = false := by simp; exact hw
  have hl3 : (tr.ws.length == 0) = false := by simp; exact hw
  have HF := hide (find_yes _ g ob ps ms h i n tr l h1 h2)
  obtain ⟨a, q, c, hb, hV, _, hfar⟩ := h.ver
  have e0 : w.cell? ⟨g, 0, none⟩ = some (.slice a q c) := cell_blk hb rfl
  have e1 : w.cell? ⟨g, 1, none⟩ = some (.int .u64 (ms.low : Nat)) := cell_blk hb rfl
  have HC := hide (confl_any w l tr (h.each i n tr l h1 h2) a q c ms.low ms.vs hV)
  rw [hc] at HC
  have HH := hide (And.intro h (And.intro h1 h2))
  have HB := hide hb
  have HV := hide hV
  have HFAR := hide hfar
  clear h h1 h2 hb hV hfar
  go_enter_defers Tryz.func33, Tryz.ntmps33
  go_wp2_with fail
  refine HF.out.mono ?_
  rintro e w' ⟨rfl, rfl⟩
  go_wp2_with fail
  refine HC.out.mono ?_
  rintro e w1 ⟨rfl, hb1⟩
  have HM1 := hide (HH.out.1.below hb1)
  have HF1 : Hid (Frm (fun j => j = g ∨ j = ob) w' w1) := hide (Frm.below hb1)
  have HB1 := hide hb1
  clear HF HC hb1 e0 e1
  have HDN := hide (done_any w1 l tr (HM1.out.each i n tr l HH.out.2.1 HH.out.2.2) hle)
  go_wp2_with fail
  refine HDN.out.mono ?_
  rintro e w2 ⟨v2, rfl, hrow, hb2⟩
  have HM2 := hide (HM1.out.below hb2)
  have HF2 := hide (HF1.out.trans (Frm.below hb2))
  have HROW := hide hrow
  have HB2 : Hid (w2.drew.heap[g]? = some (.cells #[.slice a q c, .int .u64 (ms.low : Nat), .int .u64 (ms.now : Nat), .int .i64 (ms.last : Nat), .map (some ob)] 97 (0, 0))) := hide ((hb2.block _ (Nat.lt_of_lt_of_le (heap_lt HB.out) HB1.out.size)).trans ((HB1.out.block _ (heap_lt HB.out)).trans HB.out))
  have HV2 := hide ((HV.out.below HB1.out).below hb2)
  have HBW := hide (HB1.out.trans (hb2.mono HB1.out.size))
  have HB1S := hide HB1.out.size
  clear hrow hb2 HDN
  obtain ⟨a2, c2, rfl⟩ := own_form HROW.out
  have HIW : Hid (IsW w2 a2 tr.ws.length c2 tr.ws) := hide (own_isW rfl HROW.out)
  go_wp2_with fail
  have hwn : IntKind.u64.wrap ((ms.now : Int) + 1) = (ms.now : Int) + 1 := HWN.out
  have HS : Hid (∀ W' : World, Below w2.heap.size w2 W' → W'.cell? ⟨g, 0, none⟩ = some (.slice a q c) ∧ W'.cell? ⟨g, 1, none⟩ = some (.int .u64 (ms.low : Nat)) ∧ W'.cell? ⟨g, 2, none⟩ = some (.int .u64 (ms.now : Nat))) := hide (fun W' hW => by
    have r1 := (hW.block _ (heap_lt HB2.out)).trans HB2.out
    exact ⟨cell_blk r1 rfl, cell_blk r1 rfl, cell_blk r1 rfl⟩)
  have HD0 : Hid (Below w2.heap.size w2 w2.drew) := hide (Below.refl _ w2).drew
  have HP : Hid (∀ W' : World, Below w2.heap.size w2 W' → Calls Tryz.prog 39 #[.agg #[.slice a q c, .int .u64 (ms.low : Nat)], .slice a2 tr.ws.length c2, .int .u64 ((ms.now : Int) + 1)] W' fun e w' => ∃ a5 c5, e = .returned (.tuple #[.agg #[.slice a5 (putR ms.low ms.vs tr.ws (ms.now + 1)).1.length c5, .int .u64 ((putR ms.low ms.vs tr.ws (ms.now + 1)).2.1 : Nat)], .int .i64 (putR ms.low ms.vs tr.ws (ms.now + 1)).2.2]) ∧ IsV w' a5 (putR ms.low ms.vs tr.ws (ms.now + 1)).1.length c5 (putR ms.low ms.vs tr.ws (ms.now + 1)).1 ∧ Below w2.heap.size w2 w' ∧ (∀ b off, a5 = some ⟨b, off, none⟩ → W'.heap.size ≤ b) ∧ Below W'.heap.size W' w') := hide (fun W' hW =>
    (put_any a q c ms.low ms.vs a2 tr.ws.length c2 tr.ws (ms.now + 1) W' (HV2.out.below hW) (HIW.out.below hW)).mono (fun e w' ⟨a5, c5, q1, q2, q3, q4⟩ => ⟨a5, c5, q1, q2, hW.trans (q3.mono hW.size), q4, q3⟩))
  generalize putR ms.low ms.vs tr.ws (ms.now + 1) = R at *
  obtain ⟨R1, R2, R3⟩ := R
  dsimp only at HP HSAYS
  generalize R1.length = nR at *
  refine calmW ?_
  refine wp_region_held_drew (S := (fun W' : World => W'.cell? ⟨g, 0, none⟩ = some (.slice a q c) ∧ W'.cell? ⟨g, 1, none⟩ = some (.int .u64 (ms.low : Nat)) ∧ W'.cell? ⟨g, 2, none⟩ = some (.int .u64 (ms.now : Nat)))) (by kernel_rfl) ?hSp (fun hHeld => ?_)
  case hSp => exact HS.out _ HD0.out
  refine hTake (i := 0) (v := ?v0p) (some 38) rfl rfl (by kernel_rfl) (by kernel_rfl) (by kernel_rfl) (fun _ _ _ h => h) (by rfl) (by assumption) ?hy0p ?hn0p
  case hy0p => (intro w hSw; (try dsimp only at hSw); skip; go_simp; try with_reducible rfl)
  try simp only [Act.put, List.setIfInBounds_toArray, List.set_cons_zero, List.set_cons_succ]
  refine hTake (i := 1) (v := ?v1p) (some 39) rfl rfl (by kernel_rfl) (by kernel_rfl) (by kernel_rfl) (fun _ _ _ h => h) (by rfl) (by assumption) ?hy1p ?hn1p
  case hy1p => (intro w hSw; (try dsimp only at hSw); skip; go_simp; try with_reducible rfl)
  try simp only [Act.put, List.setIfInBounds_toArray, List.set_cons_zero, List.set_cons_succ]
  refine hTake (i := 2) (v := ?v2p) (some 40) rfl rfl (by kernel_rfl) (by kernel_rfl) (by kernel_rfl) (fun _ _ _ h => h) (by rfl) (by assumption) ?hy2p ?hn2p
  case hy2p => (intro w hSw; (try dsimp only at hSw); skip; go_simp; try with_reducible rfl)
  try simp only [Act.put, List.setIfInBounds_toArray, List.set_cons_zero, List.set_cons_succ]
  refine hTake (i := 3) (v := ?v3p) (some 41) rfl rfl (by kernel_rfl) (by kernel_rfl) (by kernel_rfl) (fun _ _ _ h => h) (by rfl) (by assumption) ?hy3p ?hn3p
  case hy3p => (intro w hSw; (try dsimp only at hSw); skip; go_simp; try with_reducible rfl)
  try simp only [Act.put, List.setIfInBounds_toArray, List.set_cons_zero, List.set_cons_succ]
  refine hTake (i := 4) (v := ?v4p) (some 42) rfl rfl (by kernel_rfl) (by kernel_rfl) (by kernel_rfl) (fun _ _ _ h => h) (by rfl) (by assumption) ?hy4p ?hn4p
  case hy4p => (intro w hSw; (try dsimp only at hSw); skip; go_simp; try with_reducible rfl)
  try simp only [Act.put, List.setIfInBounds_toArray, List.set_cons_zero, List.set_cons_succ]
  refine hTake (i := 5) (v := ?v5p) (some 43) rfl rfl (by kernel_rfl) (by kernel_rfl) (by kernel_rfl) (fun _ _ _ h => h) (by rfl) (by assumption) ?hy5p ?hn5p
  case hy5p => (intro w hSw; (try dsimp only at hSw); skip; go_simp; try with_reducible rfl)
  try simp only [Act.put, List.setIfInBounds_toArray, List.set_cons_zero, List.set_cons_succ]
  refine hTake (i := 6) (v := ?v6p) (some 44) rfl rfl (by kernel_rfl) (by kernel_rfl) (by kernel_rfl) (fun _ _ _ h => h) (by rfl) (by assumption) ?hy6p ?hn6p
  case hy6p => (intro w hSw; (try dsimp only at hSw); skip; go_simp; try with_reducible rfl)
  try simp only [Act.put, List.setIfInBounds_toArray, List.set_cons_zero, List.set_cons_succ]
  refine hTake (i := 7) (v := ?v7p) (some 45) rfl rfl (by kernel_rfl) (by kernel_rfl) (by kernel_rfl) (fun _ _ _ h => h) (by rfl) (by assumption) ?hy7p ?hn7p
  case hy7p => (intro w hSw; (try dsimp only at hSw); skip; go_simp; try with_reducible rfl)
  try simp only [Act.put, List.setIfInBounds_toArray, List.set_cons_zero, List.set_cons_succ]
  refine hTake (i := 8) (v := ?v8p) (some 46) rfl rfl (by kernel_rfl) (by kernel_rfl) (by kernel_rfl) (fun _ _ _ h => h) (by rfl) (by assumption) ?hy8p ?hn8p
  case hy8p => (intro w hSw; (try dsimp only at hSw); skip; go_simp; try with_reducible rfl)
  try simp only [Act.put, List.setIfInBounds_toArray, List.set_cons_zero, List.set_cons_succ]
  refine hTake (i := 9) (v := ?v9p) (some 47) rfl rfl (by kernel_rfl) (by kernel_rfl) (by kernel_rfl) (fun _ _ _ h => h) (by rfl) (by assumption) ?hy9p ?hn9p
  case hy9p => (intro w hSw; (try dsimp only at hSw); skip; go_simp; try with_reducible rfl)
  try simp only [Act.put, List.setIfInBounds_toArray, List.set_cons_zero, List.set_cons_succ]
  refine hTwo (i := 10) (j := 14) rfl rfl (by kernel_rfl) (fun K hK => ?_) (fun K hK => ?_)
  · go_simp
    refine (HP.out _ HD0.out).mono ?_
    rintro e wA ⟨a5, c5, rfl, hI5, hbA, hn5, hbB⟩
    have HI5 := hide (And.intro hI5 (And.intro hbA hn5))
    have HBB := hide hbB
    clear hI5 hbA hn5 hbB
    refine hK.out _ _ (HS.out _ HI5.out.2.1) (fun hHeld => ?_)
    clear hK K
    try simp only [Act.put, List.setIfInBounds_toArray, List.set_cons_zero, List.set_cons_succ]
    refine hTake (i := 11) (v := ?v11qA) (some 37) rfl rfl (by kernel_rfl) (by kernel_rfl) (by kernel_rfl) (fun _ _ _ h => h) (by rfl) (by assumption) ?hy11qA ?hn11qA
    case hy11qA => (intro w hSw; (try dsimp only at hSw); skip; go_simp; try with_reducible rfl)
    try simp only [Act.put, List.setIfInBounds_toArray, List.set_cons_zero, List.set_cons_succ]
    refine hTake (i := 12) (v := ?v12qA) (some 49) rfl rfl (by kernel_rfl) (by kernel_rfl) (by kernel_rfl) (fun _ _ _ h => h) (by rfl) (by assumption) ?hy12qA ?hn12qA
    case hy12qA => (intro w hSw; (try dsimp only at hSw); skip; go_simp; try with_reducible rfl)
    try simp only [Act.put, List.setIfInBounds_toArray, List.set_cons_zero, List.set_cons_succ]
    refine hTake (i := 13) (v := ?v13qA) (some 50) rfl rfl (by kernel_rfl) (by kernel_rfl) (by kernel_rfl) (fun _ _ _ h => h) (by rfl) (by assumption) ?hy13qA ?hn13qA
    case hy13qA => (intro w hSw; (try dsimp only at hSw); skip; go_simp; try with_reducible rfl)
    try simp only [Act.put, List.setIfInBounds_toArray, List.set_cons_zero, List.set_cons_succ]
    refine hOne (i := 14) rfl (by kernel_rfl) (fun K hK => ?_)
    go_simp
    have HBv : Hid (Below w2.heap.size w2 (wA.alloc (.cells #[.slice none 0 0, .int .u64 0] 31))) := hide (HI5.out.2.1.alloc HI5.out.2.1.size _)
    have HNv := hide (heap_alloc_new wA (.cells #[.slice none 0 0, .int .u64 0] 31))
    refine hK.out _ _ (HS.out _ HBv.out) (fun hHeld => ?_)
    clear hK K
    try simp only [Act.put, List.setIfInBounds_toArray, List.set_cons_zero, List.set_cons_succ]
    obtain ⟨bx, hbx⟩ : ∃ bx, bx = wA.heap.size := ⟨_, rfl⟩
    rw [← hbx]
    have HBX0 : Hid ((wA.alloc (.cells #[.slice none 0 0, .int .u64 0] 31)).heap[bx]? = some (.cells #[.slice none 0 0, .int .u64 0] 31 (0, 0))) := hide (by rw [hbx]; exact HNv.out)
    have HV0 : Hid (IsV (wA.alloc (.cells #[.slice none 0 0, .int .u64 0] 31)) a5 nR c5 R1) := hide (HI5.out.1.below ((Below.refl _ wA).alloc (Nat.le_refl _) _))
    have HB0 : Hid (Below w2.heap.size w2 (wA.alloc (.cells #[.slice none 0 0, .int .u64 0] 31))) := hide (HBv.out)
    have HN6 : Hid (∀ b off, a5 = some ⟨b, off, none⟩ → w2.heap.size ≤ b) := hide (HI5.out.2.2)
    have HBXL : Hid (w2.heap.size ≤ bx) := hide (by rw [hbx]; exact HI5.out.2.1.size)
    have HNB : Hid (∀ b off, 0 < nR → a5 = some ⟨b, off, none⟩ → b ≠ bx) := hide (fun b off h0 e => by obtain ⟨b', off', e', hlt', _⟩ := HI5.out.1.2.2.2 0 h0; rw [e] at e'; cases e'; omega)
    clear HI5 HBv HNv HBB
    clear hbx
    generalize (wA.alloc (.cells #[.slice none 0 0, .int .u64 0] 31)) = W0 at *
    have z0 : W0.cell? ⟨bx, 0, none⟩ = some (.slice none 0 0) := cell_blk HBX0.out rfl
    have z1 : W0.cell? ⟨bx, 1, none⟩ = some (.int .u64 0) := cell_blk HBX0.out rfl
    have f0 : W0.frozen? ⟨bx, 0, none⟩ = false := frz HBX0.out 0
    have f1 : W0.frozen? ⟨bx, 1, none⟩ = false := frz HBX0.out 1
    refine hOne (i := 15) rfl (by kernel_rfl) (fun K hK => ?_)
    go_simp
    have HB6x : Hid (Below w2.heap.size w2 ((W0.setCell ⟨bx, 0, none⟩ (.slice a5 nR c5)).setCell ⟨bx, 1, none⟩ (.int .u64 (R2 : Nat)))) := hide ((HB0.out.setCell HBXL.out _).setCell HBXL.out _)
    have HBX : Hid (((W0.setCell ⟨bx, 0, none⟩ (.slice a5 nR c5)).setCell ⟨bx, 1, none⟩ (.int .u64 (R2 : Nat))).heap[bx]? = some (.cells #[.slice a5 nR c5, .int .u64 (R2 : Nat)] 31 (0, 0))) := hide (by
      have h1 := blk_set2 (j := 0) HBX0.out (.slice a5 nR c5)
      have h2 := blk_set2 (j := 1) h1 (.int .u64 (R2 : Nat))
      simpa using h2)
    have HV6 : Hid (IsV ((W0.setCell ⟨bx, 0, none⟩ (.slice a5 nR c5)).setCell ⟨bx, 1, none⟩ (.int .u64 (R2 : Nat))) a5 nR c5 R1) := hide (HV0.out.keptB (by simp [World.setCell]) (fun b off h0 e _ => (Below.heap_setCell _ _ _ _ (HNB.out b off h0 e)).trans (Below.heap_setCell _ _ _ _ (HNB.out b off h0 e))))
    clear z0 z1 f0 f1 HB0 HBX0 HV0
    refine hK.out _ _ (HS.out _ HB6x.out) (fun hHeld => ?_)
    clear hK K
    try simp only [Act.put, List.setIfInBounds_toArray, List.set_cons_zero, List.set_cons_succ]
    refine hTake (i := 16) (v := ?v16qA) (some 8) rfl rfl (by kernel_rfl) (by kernel_rfl) (by kernel_rfl) (fun _ _ _ h => h) (by rfl) (by assumption) ?hy16qA ?hn16qA
    case hy16qA => (intro w hSw; (try dsimp only at hSw); skip; go_simp; try with_reducible rfl)
    try simp only [Act.put, List.setIfInBounds_toArray, List.set_cons_zero, List.set_cons_succ]
    refine wpAnyH_done (by kernel_rfl) ?_ _
    clear hHeld
    have HB6 : Hid (Below w2.heap.size w2 ((W0.setCell ⟨bx, 0, none⟩ (.slice a5 nR c5)).setCell ⟨bx, 1, none⟩ (.int .u64 (R2 : Nat)))) := hide (HB6x.out)
    generalize hV6 : ((W0.setCell ⟨bx, 0, none⟩ (.slice a5 nR c5)).setCell ⟨bx, 1, none⟩ (.int .u64 (R2 : Nat))) = V6 at *
    clear hV6
    have HM6 := hide (HM2.out.below HB6.out)
    have HG6 : Hid (V6.drew.heap[g]? = some (.cells #[.slice a q c, .int .u64 (ms.low : Nat), .int .u64 (ms.now : Nat), .int .i64 (ms.last : Nat), .map (some ob)] 97 (0, 0))) := hide ((HB6.out.block _ (heap_lt HB2.out)).trans HB2.out)
    have HF6 := hide (HF2.out.trans (Frm.below HB6.out))
    have HNE : Hid (bx ≠ g) := hide (by have h1 := heap_lt HB2.out; have h2 : w2.drew.heap.size = w2.heap.size := rfl; have h3 := HBXL.out; omega)
    clear HP HS
    by_cases hz : R3 = 0
    · subst hz
      have HSAY := hide (HSAYS.out.1 rfl)
      go_wp2_with fail
      refine calmW ?_
      have hwn : IntKind.u64.wrap ((ms.now : Int) + 1) = (ms.now : Int) + 1 := HWN.out
      refine wp_region_last 13 (fun W' : World => W'.cell? ⟨bx, 0, none⟩ = some (.slice a5 nR c5) ∧ W'.cell? ⟨bx, 1, none⟩ = some (.int .u64 (R2 : Nat)) ∧ W'.cell? ⟨g, 2, none⟩ = some (.int .u64 (ms.now : Nat))) (by kernel_rfl) ⟨cell_blk HBX.out rfl, cell_blk HBX.out rfl, cell_blk HG6.out rfl⟩ (fun hHeld => ?_)
      have HVD : Hid ((∀ j : Nat, V6.drew.heap[j]? = V6.heap[j]?) ∧ V6.drew.heap.size = V6.heap.size ∧ V6.drew.os = V6.os ∧ V6.drew.tape = V6.tape ∧ V6.drew.output = V6.output) := hide ⟨fun _ => rfl, rfl, rfl, rfl, rfl⟩
      have HBXd : Hid (V6.drew.heap[bx]? = some (.cells #[.slice a5 nR c5, .int .u64 (R2 : Nat)] 31 (0, 0))) := hide HBX.out
      generalize V6.drew = Vd at *
      refine wpAnyL_take (i := 0) (v := ?v0lA) rfl (by kernel_rfl) (fun _ _ _ h => h) (by assumption) (by rfl) ?hy0lA ?hn0lA
      case hy0lA => (intro w hSw; (try dsimp only at hSw); skip; go_simp; try with_reducible rfl)
      try simp only [Act.put]
      refine wpAnyL_take (i := 1) (v := ?v1lA) rfl (by kernel_rfl) (fun _ _ _ h => h) (by assumption) (by rfl) ?hy1lA ?hn1lA
      case hy1lA => (intro w hSw; (try dsimp only at hSw); skip; go_simp; try with_reducible rfl)
      try simp only [Act.put]
      refine wpAnyL_take (i := 2) (v := ?v2lA) rfl (by kernel_rfl) (fun _ _ _ h => h) (by assumption) (by rfl) ?hy2lA ?hn2lA
      case hy2lA => (intro w hSw; (try dsimp only at hSw); skip; go_simp; try with_reducible rfl)
      try simp only [Act.put]
      refine wpAnyL_take (i := 3) (v := ?v3lA) rfl (by kernel_rfl) (fun _ _ _ h => h) (by assumption) (by rfl) ?hy3lA ?hn3lA
      case hy3lA => (intro w hSw; (try dsimp only at hSw); skip; go_simp; try with_reducible rfl)
      try simp only [Act.put]
      refine wpAnyL_take (i := 4) (v := ?v4lA) rfl (by kernel_rfl) (fun _ _ _ h => h) (by assumption) (by rfl) ?hy4lA ?hn4lA
      case hy4lA => (intro w hSw; (try dsimp only at hSw); skip; go_simp; try with_reducible rfl)
      try simp only [Act.put]
      refine wpAnyL_take (i := 5) (v := ?v5lA) rfl (by kernel_rfl) (fun _ _ _ h => h) (by assumption) (by rfl) ?hy5lA ?hn5lA
      case hy5lA => (intro w hSw; (try dsimp only at hSw); skip; go_simp; try with_reducible rfl)
      try simp only [Act.put]
      refine wpAnyL_take (i := 6) (v := ?v6lA) rfl (by kernel_rfl) (fun _ _ _ h => h) (by assumption) (by rfl) ?hy6lA ?hn6lA
      case hy6lA => (intro w hSw; (try dsimp only at hSw); skip; go_simp; try with_reducible rfl)
      try simp only [Act.put]
      refine wpAnyL_take (i := 7) (v := ?v7lA) rfl (by kernel_rfl) (fun _ _ _ h => h) (by assumption) (by rfl) ?hy7lA ?hn7lA
      case hy7lA => (intro w hSw; (try dsimp only at hSw); skip; go_simp; try with_reducible rfl)
      try simp only [Act.put]
      refine wpAnyL_take (i := 8) (v := ?v8lA) rfl (by kernel_rfl) (fun _ _ _ h => h) (by assumption) (by rfl) ?hy8lA ?hn8lA
      case hy8lA => (intro w hSw; (try dsimp only at hSw); skip; go_simp; try with_reducible rfl)
      try simp only [Act.put]
      refine wpAnyL_take (i := 9) (v := ?v9lA) rfl (by kernel_rfl) (fun _ _ _ h => h) (by assumption) (by rfl) ?hy9lA ?hn9lA
      case hy9lA => (intro w hSw; (try dsimp only at hSw); skip; go_simp; try with_reducible rfl)
      try simp only [Act.put]
      refine wpAnyL_one (i := 10) rfl (by kernel_rfl) (fun K hK => ?_)
      have y0 : Vd.cell? ⟨g, 0, none⟩ = some (.slice a q c) := cell_blk HG6.out rfl
      have y1 : Vd.cell? ⟨g, 1, none⟩ = some (.int .u64 (ms.low : Nat)) := cell_blk HG6.out rfl
      have fy0 : Vd.frozen? ⟨g, 0, none⟩ = false := frz HG6.out 0
      have fy1 : Vd.frozen? ⟨g, 1, none⟩ = false := frz HG6.out 1
      go_simp
      clear y0 y1 fy0 fy1
      have HG7 : Hid (((Vd.setCell ⟨g, 0, none⟩ (.slice a5 nR c5)).setCell ⟨g, 1, none⟩ (.int .u64 (R2 : Nat))).heap[g]? = some (.cells #[.slice a5 nR c5, .int .u64 (R2 : Nat), .int .u64 (ms.now : Nat), .int .i64 (ms.last : Nat), .map (some ob)] 97 (0, 0))) := hide (by
        have h1 := blk_set2 (j := 0) HG6.out (.slice a5 nR c5)
        have h2 := blk_set2 (j := 1) h1 (.int .u64 (R2 : Nat))
        simpa using h2)
      have HX7 : Hid (((Vd.setCell ⟨g, 0, none⟩ (.slice a5 nR c5)).setCell ⟨g, 1, none⟩ (.int .u64 (R2 : Nat))).heap[bx]? = some (.cells #[.slice a5 nR c5, .int .u64 (R2 : Nat)] 31 (0, 0))) := hide ((Below.heap_setCell _ _ _ _ HNE.out).trans ((Below.heap_setCell _ _ _ _ HNE.out).trans HBXd.out))
      have HO7 : Hid (∀ j, j ≠ g → ((Vd.setCell ⟨g, 0, none⟩ (.slice a5 nR c5)).setCell ⟨g, 1, none⟩ (.int .u64 (R2 : Nat))).heap[j]? = V6.heap[j]?) := hide (fun j hj => ((Below.heap_setCell _ _ _ _ hj).trans (Below.heap_setCell _ _ _ _ hj)).trans (HVD.out.1 j))
      have HZ7 : Hid (((Vd.setCell ⟨g, 0, none⟩ (.slice a5 nR c5)).setCell ⟨g, 1, none⟩ (.int .u64 (R2 : Nat))).heap.size = V6.heap.size ∧ ((Vd.setCell ⟨g, 0, none⟩ (.slice a5 nR c5)).setCell ⟨g, 1, none⟩ (.int .u64 (R2 : Nat))).os = V6.os ∧ ((Vd.setCell ⟨g, 0, none⟩ (.slice a5 nR c5)).setCell ⟨g, 1, none⟩ (.int .u64 (R2 : Nat))).tape = V6.tape ∧ ((Vd.setCell ⟨g, 0, none⟩ (.slice a5 nR c5)).setCell ⟨g, 1, none⟩ (.int .u64 (R2 : Nat))).output = V6.output) := hide ⟨by rw [← HVD.out.2.1]; simp [World.setCell], HVD.out.2.2.1, HVD.out.2.2.2.1, HVD.out.2.2.2.2⟩
      refine hK.out _ _ (⟨cell_blk HX7.out rfl, cell_blk HX7.out rfl, cell_blk HG7.out rfl⟩) (fun hHeld => ?_)
      clear hK K
      try simp only [Act.put]
      generalize ((Vd.setCell ⟨g, 0, none⟩ (.slice a5 nR c5)).setCell ⟨g, 1, none⟩ (.int .u64 (R2 : Nat))) = V7 at *
      have fz : V7.frozen? ⟨g, 2, none⟩ = false := frz HG7.out 2
      refine wpAnyL_take (i := 11) (v := ?v11lA) rfl (by kernel_rfl) (fun _ _ _ h => h) (by assumption) (by rfl) ?hy11lA ?hn11lA
      case hy11lA => (intro w hSw; (try dsimp only at hSw); skip; go_simp; try with_reducible rfl)
      try simp only [Act.put]
      refine wpAnyL_take (i := 12) (v := ?v12lA) rfl (by kernel_rfl) (fun _ _ _ h => h) (by assumption) (by rfl) ?hy12lA ?hn12lA
      case hy12lA => (intro w hSw; (try dsimp only at hSw); skip; go_simp; try with_reducible rfl)
      try simp only [Act.put]
      refine wpAnyL_last rfl (by kernel_rfl) (by kernel_rfl) (fun K hK => ?_)
      go_simp
      refine hK.out _ _ ?_
      clear hK K hHeld
      have HG8 : Hid ((V7.setCell ⟨g, 2, none⟩ (.int .u64 ((ms.now : Int) + 1))).drew.heap[g]? = some (.cells #[.slice a5 nR c5, .int .u64 (R2 : Nat), .int .u64 ((ms.now + 1 : Nat) : Int), .int .i64 (ms.last : Nat), .map (some ob)] 97 (0, 0))) := hide (by
        have := blk_set2 (j := 2) HG7.out (.int .u64 ((ms.now : Int) + 1))
        show (V7.setCell ⟨g, 2, none⟩ (.int .u64 ((ms.now : Int) + 1))).heap[g]? = _
        simpa using this)
      have HO8 : Hid (∀ j, j ≠ g → (V7.setCell ⟨g, 2, none⟩ (.int .u64 ((ms.now : Int) + 1))).drew.heap[j]? = V6.heap[j]?) := hide (fun j hj => (Below.heap_setCell _ _ _ _ hj).trans (HO7.out j hj))
      have HZ8 : Hid ((V7.setCell ⟨g, 2, none⟩ (.int .u64 ((ms.now : Int) + 1))).drew.heap.size = V6.heap.size ∧ (V7.setCell ⟨g, 2, none⟩ (.int .u64 ((ms.now : Int) + 1))).drew.os = V6.os ∧ (V7.setCell ⟨g, 2, none⟩ (.int .u64 ((ms.now : Int) + 1))).drew.tape = V6.tape ∧ (V7.setCell ⟨g, 2, none⟩ (.int .u64 ((ms.now : Int) + 1))).drew.output = V6.output) := hide ⟨by rw [← HZ7.out.1]; simp [World.setCell], HZ7.out.2.1, HZ7.out.2.2.1, HZ7.out.2.2.2⟩
      clear HG7 HX7 HO7 HZ7 fz
      go_wp2_with fail
      refine calmW ?_
      generalize hV8 : (V7.setCell ⟨g, 2, none⟩ (.int .u64 ((ms.now : Int) + 1))) = V8 at *
      clear hV8
      refine wp_region_held_drew (S := (fun W' : World => W'.cell? ⟨g, 2, none⟩ = some (.int .u64 ((ms.now + 1 : Nat) : Int)))) (by kernel_rfl) ?hSrA (fun hHeld => ?_)
      case hSrA => exact (cell_blk HG8.out rfl)
      refine hTake (i := 0) (v := ?v0rA) (some 66) rfl rfl (by kernel_rfl) (by kernel_rfl) (by kernel_rfl) (fun _ _ _ h => h) (by rfl) (by assumption) ?hy0rA ?hn0rA
      case hy0rA => (intro w hSw; (try dsimp only at hSw); skip; go_simp; try with_reducible rfl)
      try simp only [Act.put, List.setIfInBounds_toArray, List.set_cons_zero, List.set_cons_succ]
      refine hTake (i := 1) (v := ?v1rA) (some 67) rfl rfl (by kernel_rfl) (by kernel_rfl) (by kernel_rfl) (fun _ _ _ h => h) (by rfl) (by assumption) ?hy1rA ?hn1rA
      case hy1rA => (intro w hSw; (try dsimp only at hSw); skip; go_simp; try with_reducible rfl)
      try simp only [Act.put, List.setIfInBounds_toArray, List.set_cons_zero, List.set_cons_succ]
      refine hTake (i := 2) (v := ?v2rA) (some 68) rfl rfl (by kernel_rfl) (by kernel_rfl) (by kernel_rfl) (fun _ _ _ h => h) (by rfl) (by assumption) ?hy2rA ?hn2rA
      case hy2rA => (intro w hSw; (try dsimp only at hSw); skip; go_simp; try with_reducible rfl)
      try simp only [Act.put, List.setIfInBounds_toArray, List.set_cons_zero, List.set_cons_succ]
      refine hTake (i := 3) (v := ?v3rA) (some 69) rfl rfl (by kernel_rfl) (by kernel_rfl) (by kernel_rfl) (fun _ _ _ h => h) (by rfl) (by assumption) ?hy3rA ?hn3rA
      case hy3rA => (intro w hSw; (try dsimp only at hSw); skip; go_simp; try with_reducible rfl)
      try simp only [Act.put, List.setIfInBounds_toArray, List.set_cons_zero, List.set_cons_succ]
      refine hTake (i := 4) (v := ?v4rA) (some 70) rfl rfl (by kernel_rfl) (by kernel_rfl) (by kernel_rfl) (fun _ _ _ h => h) (by rfl) (by assumption) ?hy4rA ?hn4rA
      case hy4rA => (intro w hSw; (try dsimp only at hSw); skip; go_simp; try with_reducible rfl)
      try simp only [Act.put, List.setIfInBounds_toArray, List.set_cons_zero, List.set_cons_succ]
      refine hTake (i := 5) (v := ?v5rA) (some 4) rfl rfl (by kernel_rfl) (by kernel_rfl) (by kernel_rfl) (fun _ _ _ h => h) (by rfl) (by assumption) ?hy5rA ?hn5rA
      case hy5rA => (intro w hSw; (try dsimp only at hSw); skip; go_simp; try with_reducible rfl)
      try simp only [Act.put, List.setIfInBounds_toArray, List.set_cons_zero, List.set_cons_succ]
      refine hTake (i := 6) (v := ?v6rA) (some 5) rfl rfl (by kernel_rfl) (by kernel_rfl) (by kernel_rfl) (fun _ _ _ h => h) (by rfl) (by assumption) ?hy6rA ?hn6rA
      case hy6rA => (intro w hSw; (try dsimp only at hSw); skip; go_simp; try with_reducible rfl)
      try simp only [Act.put, List.setIfInBounds_toArray, List.set_cons_zero, List.set_cons_succ]
      refine hTake (i := 7) (v := ?v7rA) (some 6) rfl rfl (by kernel_rfl) (by kernel_rfl) (by kernel_rfl) (fun _ _ _ h => h) (by rfl) (by assumption) ?hy7rA ?hn7rA
      case hy7rA => (intro w hSw; (try dsimp only at hSw); skip; go_simp; try with_reducible rfl)
      try simp only [Act.put, List.setIfInBounds_toArray, List.set_cons_zero, List.set_cons_succ]
      refine wpAnyH_done (by kernel_rfl) ?_ _
      have HM8 : Hid (IsM V8.drew g ob ps (comM ms tr)) := hide (by
        rw [HSAY.out.2.1]
        have hnew : ∀ b off, a5 = some ⟨b, off, none⟩ → ¬ SM g ob ps b := fun b off e hS => by
          have h1 := HN6.out b off e
          have h2 := HM2.out.ltS hS
          omega
        exact vers_isM HM6.out HG8.out (HV6.out.keptB (Nat.le_of_eq HZ8.out.1.symm) (fun b off _ e _ => HO8.out b (fun e2 => hnew b off e (.inl e2)))) (fun b off _ e => hnew b off e) (fun j _ hj => HO8.out j hj))
      have HF8 : Hid (Frm (fun j => j = g ∨ j = ob) w' V8.drew) := hide (HF6.out.trans ⟨HZ8.out.2.1, HZ8.out.2.2.1, HZ8.out.2.2.2, Nat.le_of_eq HZ8.out.1.symm, fun j _ hn => HO8.out j (fun e => hn (.inl e))⟩)
      have HR8 : Hid (V8.drew.ownsRow w'.heap.size 64 3 (.slice a2 tr.ws.length c2) tr.ws.length (tr.ws.flatMap wtc)) := hide (row_kept (row_mono HROW.out HB1S.out) (fun j hj => by
        have h1 := (HROW.out.lt j hj).1
        have h2 := (HROW.out.lt j hj).2
        have h3 := heap_lt HB.out
        exact (HO8.out j (by have := HB1S.out; omega)).trans (HB6.out.block j h2)))
      go_wp2
      refine leaves_cons (f := 59) (args := #[.pointer (some ⟨g, 0, none⟩), .int .i64 (n : Int)]) (by simp) (by simp [go_sem]) ?_
      refine (end_d _ g ob ps (comM ms tr) HM8.out i n tr l (by rw [comM_opn]; exact HH.out.2.1) HH.out.2.2).mono ?_
      rintro e u' w9 ⟨rfl, rfl, hM9, hF9, hV9⟩
      refine ⟨_, results3 rfl _ _ _, .slice a2 tr.ws.length c2, ?_, ?_, hM9, HF8.out.trans hF9, fun b h => ?_⟩
      · rw [HSAY.out.1, HSAY.out.2.2.1]; rfl
      · rw [HSAY.out.2.2.2]
        refine row_kept HR8.out (fun j hj => ?_)
        have h1 := (HR8.out.lt j hj).1
        have h2 := heap_lt HB.out
        have h4 := HH.out.1.ltS (.inr (.inl rfl))
        exact hF9.block j (HR8.out.lt j hj).2 (fun e => by rcases e with e | e <;> omega)
      · have h2 : w2.heap.size ≤ b := (hV9 b h).elim (fun h => by
          obtain ⟨_, off, e⟩ := h.at HG8.out
          exact HN6.out b off e) (fun h => Nat.le_trans (Nat.le_trans HB6.out.size (Nat.le_of_eq HZ8.out.1.symm)) h)
        refine ⟨.inr (Nat.le_trans HBW.out.size h2), fun e => ?_⟩
        have h3 := (HROW.out.lt b e).2
        omega
    · have hz2 : (R3 == 0) = false := by simpa using hz
      have hz3 : decide (R3 = 0) = false := decide_eq_false hz
      have HSAY := hide (HSAYS.out.2 hz)
      go_wp2
      refine leaves_cons (f := 59) (args := #[.pointer (some ⟨g, 0, none⟩), .int .i64 (n : Int)]) (by simp) (by simp [go_sem]) ?_
      refine (end_d _ g ob ps ms HM6.out i n tr l HH.out.2.1 HH.out.2.2).mono ?_
      rintro e u' w9 ⟨rfl, rfl, hM9, hF9, hV9⟩
      refine ⟨_, results3 rfl _ _ _, .slice none 0 0, ?_, ?_, ?_, HF6.out.trans hF9, fun b h => ⟨(hV9 b h).elim (fun h => .inl (h.same ((HB6.out.block _ (heap_lt HB2.out)).trans (HBW.out.block _ (heap_lt HB.out))))) (fun h => .inr (Nat.le_trans HF6.out.size h)), by simp [Value.ownBlock]⟩⟩
      · rw [HSAY.out.1, HSAY.out.2.2.1]; rfl
      · rw [HSAY.out.2.2.2]; exact World.ownsRow_nil _ _ _ _
      · rw [HSAY.out.2.1]; exact hM9
  · go_simp
    have HBv : Hid (Below w2.heap.size w2 (w2.alloc (.cells #[.slice none 0 0, .int .u64 0] 31)).drew) := hide ((Below.refl _ w2).alloc (Nat.le_refl _) _).drew
    have HNv := hide (heap_alloc_new w2 (.cells #[.slice none 0 0, .int .u64 0] 31))
    refine hK.out _ _ (HS.out _ HBv.out) (fun hHeld => ?_)
    clear hK K
    try simp only [Act.put, List.setIfInBounds_toArray, List.set_cons_zero, List.set_cons_succ]
    refine hOne (i := 10) rfl (by kernel_rfl) (fun K hK => ?_)
    go_simp
    refine (HP.out _ HBv.out).mono ?_
    rintro e wA ⟨a5, c5, rfl, hI5, hbA, hn5, hbB⟩
    have HI5 := hide (And.intro hI5 (And.intro hbA hn5))
    have HBB := hide hbB
    clear hI5 hbA hn5 hbB
    refine hK.out _ _ (HS.out _ HI5.out.2.1) (fun hHeld => ?_)
    clear hK K
    try simp only [Act.put, List.setIfInBounds_toArray, List.set_cons_zero, List.set_cons_succ]
    refine hTake (i := 11) (v := ?v11qB) (some 37) rfl rfl (by kernel_rfl) (by kernel_rfl) (by kernel_rfl) (fun _ _ _ h => h) (by rfl) (by assumption) ?hy11qB ?hn11qB
    case hy11qB => (intro w hSw; (try dsimp only at hSw); skip; go_simp; try with_reducible rfl)
    try simp only [Act.put, List.setIfInBounds_toArray, List.set_cons_zero, List.set_cons_succ]
    refine hTake (i := 12) (v := ?v12qB) (some 49) rfl rfl (by kernel_rfl) (by kernel_rfl) (by kernel_rfl) (fun _ _ _ h => h) (by rfl) (by assumption) ?hy12qB ?hn12qB
    case hy12qB => (intro w hSw; (try dsimp only at hSw); skip; go_simp; try with_reducible rfl)
    try simp only [Act.put, List.setIfInBounds_toArray, List.set_cons_zero, List.set_cons_succ]
    refine hTake (i := 13) (v := ?v13qB) (some 50) rfl rfl (by kernel_rfl) (by kernel_rfl) (by kernel_rfl) (fun _ _ _ h => h) (by rfl) (by assumption) ?hy13qB ?hn13qB
    case hy13qB => (intro w hSw; (try dsimp only at hSw); skip; go_simp; try with_reducible rfl)
    try simp only [Act.put, List.setIfInBounds_toArray, List.set_cons_zero, List.set_cons_succ]
    obtain ⟨bx, hbx⟩ : ∃ bx, bx = w2.heap.size := ⟨_, rfl⟩
    rw [← hbx]
    have HBX0 : Hid (wA.heap[bx]? = some (.cells #[.slice none 0 0, .int .u64 0] 31 (0, 0))) := hide (by rw [hbx]; exact (HBB.out.block _ (heap_lt HNv.out)).trans HNv.out)
    have HV0 : Hid (IsV wA a5 nR c5 R1) := hide (HI5.out.1)
    have HB0 : Hid (Below w2.heap.size w2 wA) := hide (HI5.out.2.1)
    have HN6 : Hid (∀ b off, a5 = some ⟨b, off, none⟩ → w2.heap.size ≤ b) := hide (fun b off e => by have h1 := HI5.out.2.2 b off e; have h2 : (w2.alloc (.cells #[.slice none 0 0, .int .u64 0] 31)).heap.size = w2.heap.size + 1 := World.size_alloc _ _; have h3 : (w2.alloc (.cells #[.slice none 0 0, .int .u64 0] 31)).heap.size ≤ b := h1; omega)
    have HBXL : Hid (w2.heap.size ≤ bx) := hide (by rw [hbx]; exact Nat.le_refl _)
    have HNB : Hid (∀ b off, 0 < nR → a5 = some ⟨b, off, none⟩ → b ≠ bx) := hide (fun b off _ e => by have h1 := HI5.out.2.2 b off e; have h2 : (w2.alloc (.cells #[.slice none 0 0, .int .u64 0] 31)).heap.size = w2.heap.size + 1 := World.size_alloc _ _; have h3 : (w2.alloc (.cells #[.slice none 0 0, .int .u64 0] 31)).heap.size ≤ b := h1; omega)
    clear HI5 HBv HNv HBB
    clear hbx
    generalize wA = W0 at *
    have z0 : W0.cell? ⟨bx, 0, none⟩ = some (.slice none 0 0) := cell_blk HBX0.out rfl
    have z1 : W0.cell? ⟨bx, 1, none⟩ = some (.int .u64 0) := cell_blk HBX0.out rfl
    have f0 : W0.frozen? ⟨bx, 0, none⟩ = false := frz HBX0.out 0
    have f1 : W0.frozen? ⟨bx, 1, none⟩ = false := frz HBX0.out 1
    refine hOne (i := 15) rfl (by kernel_rfl) (fun K hK => ?_)
    go_simp
    have HB6x : Hid (Below w2.heap.size w2 ((W0.setCell ⟨bx, 0, none⟩ (.slice a5 nR c5)).setCell ⟨bx, 1, none⟩ (.int .u64 (R2 : Nat)))) := hide ((HB0.out.setCell HBXL.out _).setCell HBXL.out _)
    have HBX : Hid (((W0.setCell ⟨bx, 0, none⟩ (.slice a5 nR c5)).setCell ⟨bx, 1, none⟩ (.int .u64 (R2 : Nat))).heap[bx]? = some (.cells #[.slice a5 nR c5, .int .u64 (R2 : Nat)] 31 (0, 0))) := hide (by
      have h1 := blk_set2 (j := 0) HBX0.out (.slice a5 nR c5)
      have h2 := blk_set2 (j := 1) h1 (.int .u64 (R2 : Nat))
      simpa using h2)
    have HV6 : Hid (IsV ((W0.setCell ⟨bx, 0, none⟩ (.slice a5 nR c5)).setCell ⟨bx, 1, none⟩ (.int .u64 (R2 : Nat))) a5 nR c5 R1) := hide (HV0.out.keptB (by simp [World.setCell]) (fun b off h0 e _ => (Below.heap_setCell _ _ _ _ (HNB.out b off h0 e)).trans (Below.heap_setCell _ _ _ _ (HNB.out b off h0 e))))
    clear z0 z1 f0 f1 HB0 HBX0 HV0
    refine hK.out _ _ (HS.out _ HB6x.out) (fun hHeld => ?_)
    clear hK K
    try simp only [Act.put, List.setIfInBounds_toArray, List.set_cons_zero, List.set_cons_succ]
    refine hTake (i := 16) (v := ?v16qB) (some 8) rfl rfl (by kernel_rfl) (by kernel_rfl) (by kernel_rfl) (fun _ _ _ h => h) (by rfl) (by assumption) ?hy16qB ?hn16qB
    case hy16qB => (intro w hSw; (try dsimp only at hSw); skip; go_simp; try with_reducible rfl)
    try simp only [Act.put, List.setIfInBounds_toArray, List.set_cons_zero, List.set_cons_succ]
    refine wpAnyH_done (by kernel_rfl) ?_ _
    clear hHeld
    have HB6 : Hid (Below w2.heap.size w2 ((W0.setCell ⟨bx, 0, none⟩ (.slice a5 nR c5)).setCell ⟨bx, 1, none⟩ (.int .u64 (R2 : Nat)))) := hide (HB6x.out)
    generalize hV6 : ((W0.setCell ⟨bx, 0, none⟩ (.slice a5 nR c5)).setCell ⟨bx, 1, none⟩ (.int .u64 (R2 : Nat))) = V6 at *
    clear hV6
    have HM6 := hide (HM2.out.below HB6.out)
    have HG6 : Hid (V6.drew.heap[g]? = some (.cells #[.slice a q c, .int .u64 (ms.low : Nat), .int .u64 (ms.now : Nat), .int .i64 (ms.last : Nat), .map (some ob)] 97 (0, 0))) := hide ((HB6.out.block _ (heap_lt HB2.out)).trans HB2.out)
    have HF6 := hide (HF2.out.trans (Frm.below HB6.out))
    have HNE : Hid (bx ≠ g) := hide (by have h1 := heap_lt HB2.out; have h2 : w2.drew.heap.size = w2.heap.size := rfl; have h3 := HBXL.out; omega)
    clear HP HS
    by_cases hz : R3 = 0
    · subst hz
      have HSAY := hide (HSAYS.out.1 rfl)
      go_wp2_with fail
      refine calmW ?_
      have hwn : IntKind.u64.wrap ((ms.now : Int) + 1) = (ms.now : Int) + 1 := HWN.out
      refine wp_region_last 13 (fun W' : World => W'.cell? ⟨bx, 0, none⟩ = some (.slice a5 nR c5) ∧ W'.cell? ⟨bx, 1, none⟩ = some (.int .u64 (R2 : Nat)) ∧ W'.cell? ⟨g, 2, none⟩ = some (.int .u64 (ms.now : Nat))) (by kernel_rfl) ⟨cell_blk HBX.out rfl, cell_blk HBX.out rfl, cell_blk HG6.out rfl⟩ (fun hHeld => ?_)
      have HVD : Hid ((∀ j : Nat, V6.drew.heap[j]? = V6.heap[j]?) ∧ V6.drew.heap.size = V6.heap.size ∧ V6.drew.os = V6.os ∧ V6.drew.tape = V6.tape ∧ V6.drew.output = V6.output) := hide ⟨fun _ => rfl, rfl, rfl, rfl, rfl⟩
      have HBXd : Hid (V6.drew.heap[bx]? = some (.cells #[.slice a5 nR c5, .int .u64 (R2 : Nat)] 31 (0, 0))) := hide HBX.out
      generalize V6.drew = Vd at *
      refine wpAnyL_take (i := 0) (v := ?v0lB) rfl (by kernel_rfl) (fun _ _ _ h => h) (by assumption) (by rfl) ?hy0lB ?hn0lB
      case hy0lB => (intro w hSw; (try dsimp only at hSw); skip; go_simp; try with_reducible rfl)
      try simp only [Act.put]
      refine wpAnyL_take (i := 1) (v := ?v1lB) rfl (by kernel_rfl) (fun _ _ _ h => h) (by assumption) (by rfl) ?hy1lB ?hn1lB
      case hy1lB => (intro w hSw; (try dsimp only at hSw); skip; go_simp; try with_reducible rfl)
      try simp only [Act.put]
      refine wpAnyL_take (i := 2) (v := ?v2lB) rfl (by kernel_rfl) (fun _ _ _ h => h) (by assumption) (by rfl) ?hy2lB ?hn2lB
      case hy2lB => (intro w hSw; (try dsimp only at hSw); skip; go_simp; try with_reducible rfl)
      try simp only [Act.put]
      refine wpAnyL_take (i := 3) (v := ?v3lB) rfl (by kernel_rfl) (fun _ _ _ h => h) (by assumption) (by rfl) ?hy3lB ?hn3lB
      case hy3lB => (intro w hSw; (try dsimp only at hSw); skip; go_simp; try with_reducible rfl)
      try simp only [Act.put]
      refine wpAnyL_take (i := 4) (v := ?v4lB) rfl (by kernel_rfl) (fun _ _ _ h => h) (by assumption) (by rfl) ?hy4lB ?hn4lB
      case hy4lB => (intro w hSw; (try dsimp only at hSw); skip; go_simp; try with_reducible rfl)
      try simp only [Act.put]
      refine wpAnyL_take (i := 5) (v := ?v5lB) rfl (by kernel_rfl) (fun _ _ _ h => h) (by assumption) (by rfl) ?hy5lB ?hn5lB
      case hy5lB => (intro w hSw; (try dsimp only at hSw); skip; go_simp; try with_reducible rfl)
      try simp only [Act.put]
      refine wpAnyL_take (i := 6) (v := ?v6lB) rfl (by kernel_rfl) (fun _ _ _ h => h) (by assumption) (by rfl) ?hy6lB ?hn6lB
      case hy6lB => (intro w hSw; (try dsimp only at hSw); skip; go_simp; try with_reducible rfl)
      try simp only [Act.put]
      refine wpAnyL_take (i := 7) (v := ?v7lB) rfl (by kernel_rfl) (fun _ _ _ h => h) (by assumption) (by rfl) ?hy7lB ?hn7lB
      case hy7lB => (intro w hSw; (try dsimp only at hSw); skip; go_simp; try with_reducible rfl)
      try simp only [Act.put]
      refine wpAnyL_take (i := 8) (v := ?v8lB) rfl (by kernel_rfl) (fun _ _ _ h => h) (by assumption) (by rfl) ?hy8lB ?hn8lB
      case hy8lB => (intro w hSw; (try dsimp only at hSw); skip; go_simp; try with_reducible rfl)
      try simp only [Act.put]
      refine wpAnyL_take (i := 9) (v := ?v9lB) rfl (by kernel_rfl) (fun _ _ _ h => h) (by assumption) (by rfl) ?hy9lB ?hn9lB
      case hy9lB => (intro w hSw; (try dsimp only at hSw); skip; go_simp; try with_reducible rfl)
      try simp only [Act.put]
      refine wpAnyL_one (i := 10) rfl (by kernel_rfl) (fun K hK => ?_)
      have y0 : Vd.cell? ⟨g, 0, none⟩ = some (.slice a q c) := cell_blk HG6.out rfl
      have y1 : Vd.cell? ⟨g, 1, none⟩ = some (.int .u64 (ms.low : Nat)) := cell_blk HG6.out rfl
      have fy0 : Vd.frozen? ⟨g, 0, none⟩ = false := frz HG6.out 0
      have fy1 : Vd.frozen? ⟨g, 1, none⟩ = false := frz HG6.out 1
      go_simp
      clear y0 y1 fy0 fy1
      have HG7 : Hid (((Vd.setCell ⟨g, 0, none⟩ (.slice a5 nR c5)).setCell ⟨g, 1, none⟩ (.int .u64 (R2 : Nat))).heap[g]? = some (.cells #[.slice a5 nR c5, .int .u64 (R2 : Nat), .int .u64 (ms.now : Nat), .int .i64 (ms.last : Nat), .map (some ob)] 97 (0, 0))) := hide (by
        have h1 := blk_set2 (j := 0) HG6.out (.slice a5 nR c5)
        have h2 := blk_set2 (j := 1) h1 (.int .u64 (R2 : Nat))
        simpa using h2)
      have HX7 : Hid (((Vd.setCell ⟨g, 0, none⟩ (.slice a5 nR c5)).setCell ⟨g, 1, none⟩ (.int .u64 (R2 : Nat))).heap[bx]? = some (.cells #[.slice a5 nR c5, .int .u64 (R2 : Nat)] 31 (0, 0))) := hide ((Below.heap_setCell _ _ _ _ HNE.out).trans ((Below.heap_setCell _ _ _ _ HNE.out).trans HBXd.out))
      have HO7 : Hid (∀ j, j ≠ g → ((Vd.setCell ⟨g, 0, none⟩ (.slice a5 nR c5)).setCell ⟨g, 1, none⟩ (.int .u64 (R2 : Nat))).heap[j]? = V6.heap[j]?) := hide (fun j hj => ((Below.heap_setCell _ _ _ _ hj).trans (Below.heap_setCell _ _ _ _ hj)).trans (HVD.out.1 j))
      have HZ7 : Hid (((Vd.setCell ⟨g, 0, none⟩ (.slice a5 nR c5)).setCell ⟨g, 1, none⟩ (.int .u64 (R2 : Nat))).heap.size = V6.heap.size ∧ ((Vd.setCell ⟨g, 0, none⟩ (.slice a5 nR c5)).setCell ⟨g, 1, none⟩ (.int .u64 (R2 : Nat))).os = V6.os ∧ ((Vd.setCell ⟨g, 0, none⟩ (.slice a5 nR c5)).setCell ⟨g, 1, none⟩ (.int .u64 (R2 : Nat))).tape = V6.tape ∧ ((Vd.setCell ⟨g, 0, none⟩ (.slice a5 nR c5)).setCell ⟨g, 1, none⟩ (.int .u64 (R2 : Nat))).output = V6.output) := hide ⟨by rw [← HVD.out.2.1]; simp [World.setCell], HVD.out.2.2.1, HVD.out.2.2.2.1, HVD.out.2.2.2.2⟩
      refine hK.out _ _ (⟨cell_blk HX7.out rfl, cell_blk HX7.out rfl, cell_blk HG7.out rfl⟩) (fun hHeld => ?_)
      clear hK K
      try simp only [Act.put]
      generalize ((Vd.setCell ⟨g, 0, none⟩ (.slice a5 nR c5)).setCell ⟨g, 1, none⟩ (.int .u64 (R2 : Nat))) = V7 at *
      have fz : V7.frozen? ⟨g, 2, none⟩ = false := frz HG7.out 2
      refine wpAnyL_take (i := 11) (v := ?v11lB) rfl (by kernel_rfl) (fun _ _ _ h => h) (by assumption) (by rfl) ?hy11lB ?hn11lB
      case hy11lB => (intro w hSw; (try dsimp only at hSw); skip; go_simp; try with_reducible rfl)
      try simp only [Act.put]
      refine wpAnyL_take (i := 12) (v := ?v12lB) rfl (by kernel_rfl) (fun _ _ _ h => h) (by assumption) (by rfl) ?hy12lB ?hn12lB
      case hy12lB => (intro w hSw; (try dsimp only at hSw); skip; go_simp; try with_reducible rfl)
      try simp only [Act.put]
      refine wpAnyL_last rfl (by kernel_rfl) (by kernel_rfl) (fun K hK => ?_)
      go_simp
      refine hK.out _ _ ?_
      clear hK K hHeld
      have HG8 : Hid ((V7.setCell ⟨g, 2, none⟩ (.int .u64 ((ms.now : Int) + 1))).drew.heap[g]? = some (.cells #[.slice a5 nR c5, .int .u64 (R2 : Nat), .int .u64 ((ms.now + 1 : Nat) : Int), .int .i64 (ms.last : Nat), .map (some ob)] 97 (0, 0))) := hide (by
        have := blk_set2 (j := 2) HG7.out (.int .u64 ((ms.now : Int) + 1))
        show (V7.setCell ⟨g, 2, none⟩ (.int .u64 ((ms.now : Int) + 1))).heap[g]? = _
        simpa using this)
      have HO8 : Hid (∀ j, j ≠ g → (V7.setCell ⟨g, 2, none⟩ (.int .u64 ((ms.now : Int) + 1))).drew.heap[j]? = V6.heap[j]?) := hide (fun j hj => (Below.heap_setCell _ _ _ _ hj).trans (HO7.out j hj))
      have HZ8 : Hid ((V7.setCell ⟨g, 2, none⟩ (.int .u64 ((ms.now : Int) + 1))).drew.heap.size = V6.heap.size ∧ (V7.setCell ⟨g, 2, none⟩ (.int .u64 ((ms.now : Int) + 1))).drew.os = V6.os ∧ (V7.setCell ⟨g, 2, none⟩ (.int .u64 ((ms.now : Int) + 1))).drew.tape = V6.tape ∧ (V7.setCell ⟨g, 2, none⟩ (.int .u64 ((ms.now : Int) + 1))).drew.output = V6.output) := hide ⟨by rw [← HZ7.out.1]; simp [World.setCell], HZ7.out.2.1, HZ7.out.2.2.1, HZ7.out.2.2.2⟩
      clear HG7 HX7 HO7 HZ7 fz
      go_wp2_with fail
      refine calmW ?_
      generalize hV8 : (V7.setCell ⟨g, 2, none⟩ (.int .u64 ((ms.now : Int) + 1))) = V8 at *
      clear hV8
      refine wp_region_held_drew (S := (fun W' : World => W'.cell? ⟨g, 2, none⟩ = some (.int .u64 ((ms.now + 1 : Nat) : Int)))) (by kernel_rfl) ?hSrB (fun hHeld => ?_)
      case hSrB => exact (cell_blk HG8.out rfl)
      refine hTake (i := 0) (v := ?v0rB) (some 66) rfl rfl (by kernel_rfl) (by kernel_rfl) (by kernel_rfl) (fun _ _ _ h => h) (by rfl) (by assumption) ?hy0rB ?hn0rB
      case hy0rB => (intro w hSw; (try dsimp only at hSw); skip; go_simp; try with_reducible rfl)
      try simp only [Act.put, List.setIfInBounds_toArray, List.set_cons_zero, List.set_cons_succ]
      refine hTake (i := 1) (v := ?v1rB) (some 67) rfl rfl (by kernel_rfl) (by kernel_rfl) (by kernel_rfl) (fun _ _ _ h => h) (by rfl) (by assumption) ?hy1rB ?hn1rB
      case hy1rB => (intro w hSw; (try dsimp only at hSw); skip; go_simp; try with_reducible rfl)
      try simp only [Act.put, List.setIfInBounds_toArray, List.set_cons_zero, List.set_cons_succ]
      refine hTake (i := 2) (v := ?v2rB) (some 68) rfl rfl (by kernel_rfl) (by kernel_rfl) (by kernel_rfl) (fun _ _ _ h => h) (by rfl) (by assumption) ?hy2rB ?hn2rB
      case hy2rB => (intro w hSw; (try dsimp only at hSw); skip; go_simp; try with_reducible rfl)
      try simp only [Act.put, List.setIfInBounds_toArray, List.set_cons_zero, List.set_cons_succ]
      refine hTake (i := 3) (v := ?v3rB) (some 69) rfl rfl (by kernel_rfl) (by kernel_rfl) (by kernel_rfl) (fun _ _ _ h => h) (by rfl) (by assumption) ?hy3rB ?hn3rB
      case hy3rB => (intro w hSw; (try dsimp only at hSw); skip; go_simp; try with_reducible rfl)
      try simp only [Act.put, List.setIfInBounds_toArray, List.set_cons_zero, List.set_cons_succ]
      refine hTake (i := 4) (v := ?v4rB) (some 70) rfl rfl (by kernel_rfl) (by kernel_rfl) (by kernel_rfl) (fun _ _ _ h => h) (by rfl) (by assumption) ?hy4rB ?hn4rB
      case hy4rB => (intro w hSw; (try dsimp only at hSw); skip; go_simp; try with_reducible rfl)
      try simp only [Act.put, List.setIfInBounds_toArray, List.set_cons_zero, List.set_cons_succ]
      refine hTake (i := 5) (v := ?v5rB) (some 4) rfl rfl (by kernel_rfl) (by kernel_rfl) (by kernel_rfl) (fun _ _ _ h => h) (by rfl) (by assumption) ?hy5rB ?hn5rB
      case hy5rB => (intro w hSw; (try dsimp only at hSw); skip; go_simp; try with_reducible rfl)
      try simp only [Act.put, List.setIfInBounds_toArray, List.set_cons_zero, List.set_cons_succ]
      refine hTake (i := 6) (v := ?v6rB) (some 5) rfl rfl (by kernel_rfl) (by kernel_rfl) (by kernel_rfl) (fun _ _ _ h => h) (by rfl) (by assumption) ?hy6rB ?hn6rB
      case hy6rB => (intro w hSw; (try dsimp only at hSw); skip; go_simp; try with_reducible rfl)
      try simp only [Act.put, List.setIfInBounds_toArray, List.set_cons_zero, List.set_cons_succ]
      refine hTake (i := 7) (v := ?v7rB) (some 6) rfl rfl (by kernel_rfl) (by kernel_rfl) (by kernel_rfl) (fun _ _ _ h => h) (by rfl) (by assumption) ?hy7rB ?hn7rB
      case hy7rB => (intro w hSw; (try dsimp only at hSw); skip; go_simp; try with_reducible rfl)
      try simp only [Act.put, List.setIfInBounds_toArray, List.set_cons_zero, List.set_cons_succ]
      refine wpAnyH_done (by kernel_rfl) ?_ _
      have HM8 : Hid (IsM V8.drew g ob ps (comM ms tr)) := hide (by
        rw [HSAY.out.2.1]
        have hnew : ∀ b off, a5 = some ⟨b, off, none⟩ → ¬ SM g ob ps b := fun b off e hS => by
          have h1 := HN6.out b off e
          have h2 := HM2.out.ltS hS
          omega
        exact vers_isM HM6.out HG8.out (HV6.out.keptB (Nat.le_of_eq HZ8.out.1.symm) (fun b off _ e _ => HO8.out b (fun e2 => hnew b off e (.inl e2)))) (fun b off _ e => hnew b off e) (fun j _ hj => HO8.out j hj))
      have HF8 : Hid (Frm (fun j => j = g ∨ j = ob) w' V8.drew) := hide (HF6.out.trans ⟨HZ8.out.2.1, HZ8.out.2.2.1, HZ8.out.2.2.2, Nat.le_of_eq HZ8.out.1.symm, fun j _ hn => HO8.out j (fun e => hn (.inl e))⟩)
      have HR8 : Hid (V8.drew.ownsRow w'.heap.size 64 3 (.slice a2 tr.ws.length c2) tr.ws.length (tr.ws.flatMap wtc)) := hide (row_kept (row_mono HROW.out HB1S.out) (fun j hj => by
        have h1 := (HROW.out.lt j hj).1
        have h2 := (HROW.out.lt j hj).2
        have h3 := heap_lt HB.out
        exact (HO8.out j (by have := HB1S.out; omega)).trans (HB6.out.block j h2)))
      go_wp2
      refine leaves_cons (f := 59) (args := #[.pointer (some ⟨g, 0, none⟩), .int .i64 (n : Int)]) (by simp) (by simp [go_sem]) ?_
      refine (end_d _ g ob ps (comM ms tr) HM8.out i n tr l (by rw [comM_opn]; exact HH.out.2.1) HH.out.2.2).mono ?_
      rintro e u' w9 ⟨rfl, rfl, hM9, hF9, hV9⟩
      refine ⟨_, results3 rfl _ _ _, .slice a2 tr.ws.length c2, ?_, ?_, hM9, HF8.out.trans hF9, fun b h => ?_⟩
      · rw [HSAY.out.1, HSAY.out.2.2.1]; rfl
      · rw [HSAY.out.2.2.2]
        refine row_kept HR8.out (fun j hj => ?_)
        have h1 := (HR8.out.lt j hj).1
        have h2 := heap_lt HB.out
        have h4 := HH.out.1.ltS (.inr (.inl rfl))
        exact hF9.block j (HR8.out.lt j hj).2 (fun e => by rcases e with e | e <;> omega)
      · have h2 : w2.heap.size ≤ b := (hV9 b h).elim (fun h => by
          obtain ⟨_, off, e⟩ := h.at HG8.out
          exact HN6.out b off e) (fun h => Nat.le_trans (Nat.le_trans HB6.out.size (Nat.le_of_eq HZ8.out.1.symm)) h)
        refine ⟨.inr (Nat.le_trans HBW.out.size h2), fun e => ?_⟩
        have h3 := (HROW.out.lt b e).2
        omega
    · have hz2 : (R3 == 0) = false := by simpa using hz
      have hz3 : decide (R3 = 0) = false := decide_eq_false hz
      have HSAY := hide (HSAYS.out.2 hz)
      go_wp2
      refine leaves_cons (f := 59) (args := #[.pointer (some ⟨g, 0, none⟩), .int .i64 (n : Int)]) (by simp) (by simp [go_sem]) ?_
      refine (end_d _ g ob ps ms HM6.out i n tr l HH.out.2.1 HH.out.2.2).mono ?_
      rintro e u' w9 ⟨rfl, rfl, hM9, hF9, hV9⟩
      refine ⟨_, results3 rfl _ _ _, .slice none 0 0, ?_, ?_, ?_, HF6.out.trans hF9, fun b h => ⟨(hV9 b h).elim (fun h => .inl (h.same ((HB6.out.block _ (heap_lt HB2.out)).trans (HBW.out.block _ (heap_lt HB.out))))) (fun h => .inr (Nat.le_trans HF6.out.size h)), by simp [Value.ownBlock]⟩⟩
      · rw [HSAY.out.1, HSAY.out.2.2.1]; rfl
      · rw [HSAY.out.2.2.2]; exact World.ownsRow_nil _ _ _ _
      · rw [HSAY.out.2.1]; exact hM9
/-- Commit at an open one, whatever the case -/
theorem commit_any (w : World) (g ob : Nat) (ps : List Pl) (ms : Mg) (h : IsM w g ob ps ms) (i n : Nat) (tr : Tr) (l : Pl) (h1 : ms.opn[i]? = some (n, tr)) (h2 : ps[i]? = some l) (hle : tr.ws.length ≤ 256) (hnow : ms.now + 1 < 18446744073709551616) :
    Calls Tryz.prog 33 #[.pointer (some ⟨g, 0, none⟩), .int .i64 (n : Int)] w fun e w' => ∃ v, e = .returned (.tuple #[v, .int .u64 (comT ms tr : Nat), .int .i64 (comE ms tr)]) ∧ w'.ownsRow w.heap.size 64 3 v (comW ms tr).length ((comW ms tr).flatMap wtc) ∧ IsM w' g ob (ps.eraseIdx i) ((comM ms tr).ended i) ∧ Frm (fun j => j = g ∨ j = ob) w w' ∧ ∀ b, VB w' g b → (VB w g b ∨ w.heap.size ≤ b) ∧ v.ownBlock ≠ some b := by
  cases hc : conflB ms.vs tr
  · have hcn : ¬ conflB ms.vs tr = true := by rw [hc]; simp
    by_cases hw : tr.ws = []
    · have e1 : comE ms tr = 0 := (if_neg hcn).trans (if_pos hw)
      have e2 : comM ms tr = ms := if_pos (.inr (.inl hw))
      have e3 : comT ms tr = ms.now := by unfold comT; rw [if_pos e1, e2]
      have e4 : comW ms tr = [] := by unfold comW; rw [if_pos e1, hw]
      rw [e1, e2, e3, e4]
      exact (commit_empty w g ob ps ms h i n tr l h1 h2 hc hw).mono (fun e w' q => ⟨_, q.1, World.ownsRow_nil _ _ _ _, q.2.1, q.2.2.1, fun b h => ⟨q.2.2.2 b h, by simp [Value.ownBlock]⟩⟩)
    · exact commit_put w g ob ps ms h i n tr l h1 h2 hc hw hle hnow
  · have e1 : comE ms tr = 10 := if_pos hc
    have e2 : comM ms tr = ms := if_pos (.inl hc)
    have e3 : comT ms tr = 0 := if_neg (by rw [e1]; decide)
    have e4 : comW ms tr = [] := if_neg (by rw [e1]; decide)
    rw [e1, e2, e3, e4]
    exact (commit_conf w g ob ps ms h i n tr l h1 h2 hc).mono (fun e w' q => ⟨_, q.1, World.ownsRow_nil _ _ _ _, q.2.1, q.2.2.1, fun b h => ⟨q.2.2.2 b h, by simp [Value.ownBlock]⟩⟩)
end Go.Proofs.YtlkmcbelmldleaaGreat
