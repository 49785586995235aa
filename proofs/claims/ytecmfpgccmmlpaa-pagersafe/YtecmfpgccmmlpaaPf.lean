/- Read: the superblock of some bytes -/
import Derived.Test.YtecmfpgccmmlpaaPc
import Derived.Laws.ResultCell
import Derived.Laws.Rows
import Derived.Deep.RegionHeld3
import Derived.Deep.DrawnRows
namespace Go.Proofs.Ytecmfpgccmmlpaa
open Go.RowKit
set_option maxRecDepth 100000
set_option linter.unusedVariables false
set_option linter.unusedSimpArgs false
theorem equal_any (a b : Option Addr) (la ca lb cb : Nat) (l m : List Nat) (w : World) (ha : IsB w a la ca l) (hb : IsB w b lb cb m) :
    Calls Try.prog 37 #[.slice a la ca, .slice b lb cb] w fun e w' => e = .returned (.bool (decide (l = m))) ∧ w' = w := by
  have h1 := conv_str ha
  have h2 := conv_str hb
  have hlm := str_eq ha.2.2.2.1 hb.2.2.2.1
  generalize str l = s at *
  generalize str m = s' at *
  go_enter Try.func37, Try.ntmps37
  go_wp2
  go_ret
  exact ⟨rfl, rfl⟩
/-- no superblock -/
def sup0 : Sup := ⟨0, 0, 0, 0, 0⟩
/-- what a function answers whose first result is a superblock's own block -/
theorem resS2 {fn : Func} {p u : Tmp} (h : fn.results = #[.cell p 24, .tmp u]) (tmps : Array Value) (W : World) (B : Nat) (cs : Array Value) (hb : W.heap[B]? = some (.cells cs 24 (0, 0))) (hs : cs.size = 5) (hp : tmps.getD p undef = .pointer (some ⟨B, 0, none⟩)) :
    (results fn tmps).run Try.prog W = .ok (.tuple #[.agg cs, tmps.getD u undef]) W := by
  rw [results_cell_tmp h, hp]
  have hl := run_loadVar_row (P := Try.prog) W B 24 24 cs (0, 0) _ hb Try.underlying24 rfl (by rw [hs]; kernel_rfl)
  simp [asAddr, Result.andThen, hl]
abbrev set5 (W : World) (B : Nat) (a b c d e : Value) : World := ((((W.setCell ⟨B, 0, none⟩ a).setCell ⟨B, 1, none⟩ b).setCell ⟨B, 2, none⟩ c).setCell ⟨B, 3, none⟩ d).setCell ⟨B, 4, none⟩ e
theorem blk5 {W : World} {B : Nat} {x0 x1 x2 x3 x4 : Value} (h : W.heap[B]? = some (.cells #[x0, x1, x2, x3, x4] 24 (0, 0))) (a b c d e : Value) : (set5 W B a b c d e).heap[B]? = some (.cells #[a, b, c, d, e] 24 (0, 0)) := by
  unfold set5
  rw [blk_set (by rw [blk_set (by rw [blk_set (by rw [blk_set (by rw [blk_set h])])])])]
  rfl
theorem below5 {B0 : Nat} {w W : World} (h : Below B0 w W) {B : Nat} (hB : B0 ≤ B) (a b c d e : Value) : Below B0 w (set5 W B a b c d e) := ((((h.setCell hB a).setCell hB b).setCell hB c).setCell hB d).setCell hB e
def rdS (l : List Nat) : Sup := (readS l).getD sup0
def rdE (l : List Nat) : Int := if (readS l).isSome then 0 else 6
theorem mid_eq (l : List Nat) (a b : Nat) : mid l a b = (l.drop a).take (b - a) := by rw [mid, List.drop_take]
theorem IsB.mid {w : World} {b off len cap : Nat} {l : List Nat} (h : IsB w (some ⟨b, off, none⟩) len cap l) (x y : Nat) (h1 : x ≤ y) (h2 : y ≤ len) : IsB w (some ⟨b, off + x, none⟩) (y - x) (cap - x) (mid l x y) := by
  rw [mid_eq]
  exact (h.back x (by omega)).front (y - x) (by omega)
theorem mid_lt {l : List Nat} (h : ∀ x ∈ l, x < 256) (a b : Nat) (hb : b ≤ l.length) (hab : a ≤ b) : lowN (mid l a b) < 256 ^ (b - a) := by
  have := lowN_lt (mid l a b) (by rw [mid_eq]; exact mem_take (mem_drop h))
  rwa [show (mid l a b).length = b - a by rw [mid_eq]; simp; omega] at this
theorem supL_lt (s : Sup) : ∀ x ∈ supL s, x < 256 := by
  intro x hx
  rw [supL, List.mem_append] at hx
  rcases hx with h | h
  · exact supX_lt s x h
  · simp only [le, List.mem_cons, List.not_mem_nil, or_false] at h; omega
attribute [local go_sem ↓] Go.wp_at_zero Go.wp_at_succ
set_option maxHeartbeats 8000000 in
theorem read_any' (w : World) (a : Option Addr) (len cap : Nat) (l : List Nat) (h : IsB w a len cap l) : Calls Try.prog 11 #[.slice a len cap] w fun e w' => e = .returned (.tuple #[supV (rdS l), .int .i64 (rdE l)]) ∧ Below w.heap.size w w' := by
  have HB0 : Hid (Below w.heap.size w (w.alloc (.cells #[.int .u64 0, .int .i64 0, .int .u64 0, .int .i64 0, .int .i64 0] 24))) := hide ((Below.refl _ w).alloc (Nat.le_refl _) _)
  have HX : Hid ((w.alloc (.cells #[.int .u64 0, .int .i64 0, .int .u64 0, .int .i64 0, .int .i64 0] 24)).heap[w.heap.size]? = some (.cells #[.int .u64 0, .int .i64 0, .int .u64 0, .int .i64 0, .int .i64 0] 24 (0, 0))) := hide (heap_alloc_new w _)
  have HR : Hid (∀ s, readS l = some s → rdS l = s ∧ rdE l = 0) := hide (fun s hs => by simp [rdS, rdE, hs])
  have HN : Hid (readS l = none → rdS l = sup0 ∧ rdE l = 6) := hide (fun hs => by simp [rdS, rdE, hs])
  have HL := hide h.1
  by_cases hl : len = 4096
  · subst hl
    obtain ⟨b, off, rfl, hlt, hc⟩ := h.2.2.2.2.resolve_left (by omega)
    have hcap := h.2.1
    have hll := h.1
    have hmax := h.2.2.1
    unfold maxLen at hmax
    have L1 : Hid (∀ W : World, Below w.heap.size w W → Calls Try.prog 36 #[.slice (some ⟨b, off + 4, none⟩) 8 (cap - 4)] W fun e w' => e = .returned (.int .u64 (lowN (mid l 4 12) : Nat)) ∧ w' = W) := hide (fun W hW => low_any _ _ _ _ _ ((h.mid 4 12 (by omega) (by omega)).below hW) (by omega))
    have L2 : Hid (∀ W : World, Below w.heap.size w W → Calls Try.prog 36 #[.slice (some ⟨b, off + 12, none⟩) 8 (cap - 12)] W fun e w' => e = .returned (.int .u64 (lowN (mid l 12 20) : Nat)) ∧ w' = W) := hide (fun W hW => low_any _ _ _ _ _ ((h.mid 12 20 (by omega) (by omega)).below hW) (by omega))
    have L3 : Hid (∀ W : World, Below w.heap.size w W → Calls Try.prog 36 #[.slice (some ⟨b, off + 20, none⟩) 4 (cap - 20)] W fun e w' => e = .returned (.int .u64 (lowN (mid l 20 24) : Nat)) ∧ w' = W) := hide (fun W hW => low_any _ _ _ _ _ ((h.mid 20 24 (by omega) (by omega)).below hW) (by omega))
    have L4 : Hid (∀ W : World, Below w.heap.size w W → Calls Try.prog 36 #[.slice (some ⟨b, off + 24, none⟩) 4 (cap - 24)] W fun e w' => e = .returned (.int .u64 (lowN (mid l 24 28) : Nat)) ∧ w' = W) := hide (fun W hW => low_any _ _ _ _ _ ((h.mid 24 28 (by omega) (by omega)).below hW) (by omega))
    have L5 : Hid (∀ W : World, Below w.heap.size w W → Calls Try.prog 36 #[.slice (some ⟨b, off + 28, none⟩) 4 (cap - 28)] W fun e w' => e = .returned (.int .u64 (lowN (mid l 28 32) : Nat)) ∧ w' = W) := hide (fun W hW => low_any _ _ _ _ _ ((h.mid 28 32 (by omega) (by omega)).below hW) (by omega))
    have m1 : _ < 4294967296 := mid_lt h.2.2.2.1 20 24 (by omega) (by omega)
    have m2 : _ < 4294967296 := mid_lt h.2.2.2.1 24 28 (by omega) (by omega)
    have m3 : _ < 4294967296 := mid_lt h.2.2.2.1 28 32 (by omega) (by omega)
    have HD : Hid (decS l = ⟨lowN (mid l 4 12), lowN (mid l 20 24), lowN (mid l 12 20), lowN (mid l 24 28), lowN (mid l 28 32)⟩) := hide rfl
    generalize lowN (mid l 4 12) = G at *
    generalize lowN (mid l 12 20) = S at *
    generalize lowN (mid l 20 24) = R at *
    generalize lowN (mid l 24 28) = J at *
    generalize lowN (mid l 28 32) = V at *
    have k1 : IntKind.i64.wrap (R : Int) = R := by rw [IntKind.wrap_i64]; omega
    have k2 : IntKind.i64.wrap (J : Int) = J := by rw [IntKind.wrap_i64]; omega
    have k3 : IntKind.i64.wrap (V : Int) = V := by rw [IntKind.wrap_i64]; omega
    have z1 : ¬ cap = 4 := by omega
    have z2 : ¬ cap = 12 := by omega
    have z3 : ¬ cap = 20 := by omega
    have z4 : ¬ cap = 24 := by omega
    have z5 : ¬ cap = 28 := by omega
    have i0 : (4 : Int) ≤ (cap : Int) := by omega
    have i1 : (12 : Int) ≤ (cap : Int) := by omega
    have i2 : (20 : Int) ≤ (cap : Int) := by omega
    have i3 : (24 : Int) ≤ (cap : Int) := by omega
    have i4 : (28 : Int) ≤ (cap : Int) := by omega
    have i5 : (32 : Int) ≤ (cap : Int) := by omega
    have H := hide h
    clear m1 m2 m3 hc h hmax
    go_enter Try.func11, Try.ntmps11
    go_wp2_with fail
    generalize hV : (w.alloc (.cells #[.int .u64 0, .int .i64 0, .int .u64 0, .int .i64 0, .int .i64 0] 24)) = V0 at *
    clear hV
    have hb1 := HB0.out.drew
    have hb2 : Below w.heap.size w (V0.alloc (.cells #[.int .u64 0, .int .i64 0, .int .u64 0, .int .i64 0, .int .i64 0] 24)).drew := (HB0.out.alloc HB0.out.size _).drew
    have N1 := hide (L1.out _ hb1)
    have M1 := hide (L1.out _ hb2)
    have N2 := hide (L2.out _ hb1)
    have M2 := hide (L2.out _ hb2)
    have N3 := hide (L3.out _ hb1)
    have M3 := hide (L3.out _ hb2)
    have N4 := hide (L4.out _ hb1)
    have M4 := hide (L4.out _ hb2)
    have N5 := hide (L5.out _ hb1)
    have M5 := hide (L5.out _ hb2)
    clear hb1 hb2 L1 L2 L3 L4 L5
    go_region_held3 (fun _ : World => True) (trivial) ((go_at_call 36; (first | with_reducible refine N1.out.mono ?_ | with_reducible refine N2.out.mono ?_ | with_reducible refine N3.out.mono ?_ | with_reducible refine N4.out.mono ?_ | with_reducible refine N5.out.mono ?_ | with_reducible refine M1.out.mono ?_ | with_reducible refine M2.out.mono ?_ | with_reducible refine M3.out.mono ?_ | with_reducible refine M4.out.mono ?_ | with_reducible refine M5.out.mono ?_); rintro e w2 ⟨rfl, rfl⟩))
    all_goals
      have HB5 : Hid (Below w.heap.size w (V0.alloc (.cells #[.int .u64 (G : Nat), .int .i64 (R : Nat), .int .u64 (S : Nat), .int .i64 (J : Nat), .int .i64 (V : Nat)] 24)).drew) := hide ((HB0.out.alloc HB0.out.size _).drew)
      have HX5 : Hid ((V0.alloc (.cells #[.int .u64 (G : Nat), .int .i64 (R : Nat), .int .u64 (S : Nat), .int .i64 (J : Nat), .int .i64 (V : Nat)] 24)).drew.heap[w.heap.size]? = some (.cells #[.int .u64 0, .int .i64 0, .int .u64 0, .int .i64 0, .int .i64 0] 24 (0, 0))) := hide (((((Below.refl _ V0).alloc (Nat.le_refl _) _).drew).block _ (heap_lt HX.out)).trans HX.out)
      have HY5 : Hid ((V0.alloc (.cells #[.int .u64 (G : Nat), .int .i64 (R : Nat), .int .u64 (S : Nat), .int .i64 (J : Nat), .int .i64 (V : Nat)] 24)).drew.heap[V0.heap.size]? = some (.cells #[.int .u64 (G : Nat), .int .i64 (R : Nat), .int .u64 (S : Nat), .int .i64 (J : Nat), .int .i64 (V : Nat)] 24 (0, 0))) := hide (heap_alloc_new V0 _)
      have q0 := cell_bk (j := 0) HY5.out rfl
      have q1 := cell_bk (j := 1) HY5.out rfl
      have q2 := cell_bk (j := 2) HY5.out rfl
      have q3 := cell_bk (j := 3) HY5.out rfl
      have q4 := cell_bk (j := 4) HY5.out rfl
      simp only [List.getElem_toArray, List.getElem_cons_zero, List.getElem_cons_succ] at q0 q1 q2 q3 q4
      clear N1 N2 N3 N4 N5 M1 M2 M3 M4 M5 HB0 HX k1 k2 k3 z1 z2 z3 z4 z5
      cases hm : Sup.may ⟨G, R, S, J, V⟩
      · have HZ := hide (HN.out (by unfold readS; rw [HD.out, hm]; simp))
        have HBY : Hid (Calls Try.prog 9 #[.agg #[.int .u64 (G : Nat), .int .i64 (R : Nat), .int .u64 (S : Nat), .int .i64 (J : Nat), .int .i64 (V : Nat)]] (V0.alloc (.cells #[.int .u64 (G : Nat), .int .i64 (R : Nat), .int .u64 (S : Nat), .int .i64 (J : Nat), .int .i64 (V : Nat)] 24)).drew fun e w' => e = .returned (.tuple #[.slice none 0 0, .int .i64 2]) ∧ Below (V0.alloc (.cells #[.int .u64 (G : Nat), .int .i64 (R : Nat), .int .u64 (S : Nat), .int .i64 (J : Nat), .int .i64 (V : Nat)] 24)).drew.heap.size (V0.alloc (.cells #[.int .u64 (G : Nat), .int .i64 (R : Nat), .int .u64 (S : Nat), .int .i64 (J : Nat), .int .i64 (V : Nat)] 24)).drew w') := hide (bytes_no ⟨G, R, S, J, V⟩ hm _)
        clear HR HN hm HD
        go_wp2_with fail
        refine HBY.out.mono ?_
        rintro e w6 ⟨rfl, hb6⟩
        have HB6 := hide (HB5.out.trans (hb6.mono HB5.out.size))
        have HX6 := hide ((hb6.block _ (heap_lt HX5.out)).trans HX5.out)
        clear hb6 HBY HB5 HX5 HY5 q0 q1 q2 q3 q4
        have y0 := cell_bk (j := 0) HX6.out rfl
        have y1 := cell_bk (j := 1) HX6.out rfl
        have y2 := cell_bk (j := 2) HX6.out rfl
        have y3 := cell_bk (j := 3) HX6.out rfl
        have y4 := cell_bk (j := 4) HX6.out rfl
        simp only [List.getElem_toArray, List.getElem_cons_zero, List.getElem_cons_succ] at y0 y1 y2 y3 y4
        have f0 := froz_bk HX6.out 0
        have f1 := froz_bk HX6.out 1
        have f2 := froz_bk HX6.out 2
        have f3 := froz_bk HX6.out 3
        have f4 := froz_bk HX6.out 4
        go_wp2
        (try simp only [Exit.inBlock, Exit.then])
        refine bodyPost_ret (resS2 rfl _ _ w.heap.size #[.int .u64 0, .int .i64 0, .int .u64 0, .int .i64 0, .int .i64 0] (blk5 HX6.out _ _ _ _ _) rfl rfl) rfl ?_
        exact ⟨by rw [HZ.out.1, HZ.out.2]; rfl, below5 HB6.out (Nat.le_refl _) _ _ _ _ _⟩
      · have HBY : Hid (Calls Try.prog 9 #[.agg #[.int .u64 (G : Nat), .int .i64 (R : Nat), .int .u64 (S : Nat), .int .i64 (J : Nat), .int .i64 (V : Nat)]] (V0.alloc (.cells #[.int .u64 (G : Nat), .int .i64 (R : Nat), .int .u64 (S : Nat), .int .i64 (J : Nat), .int .i64 (V : Nat)] 24)).drew fun e w' => ∃ q, e = .returned (.tuple #[.slice (some ⟨q, 0, none⟩) 4096 4096, .int .i64 0]) ∧ (V0.alloc (.cells #[.int .u64 (G : Nat), .int .i64 (R : Nat), .int .u64 (S : Nat), .int .i64 (J : Nat), .int .i64 (V : Nat)] 24)).drew.heap.size ≤ q ∧ Row w' q 4096 4096 (supL ⟨G, R, S, J, V⟩) ∧ Below (V0.alloc (.cells #[.int .u64 (G : Nat), .int .i64 (R : Nat), .int .u64 (S : Nat), .int .i64 (J : Nat), .int .i64 (V : Nat)] 24)).drew.heap.size (V0.alloc (.cells #[.int .u64 (G : Nat), .int .i64 (R : Nat), .int .u64 (S : Nat), .int .i64 (J : Nat), .int .i64 (V : Nat)] 24)).drew w') := hide (bytes_ok ⟨G, R, S, J, V⟩ hm _)
        have HLT := hide (supL_lt ⟨G, R, S, J, V⟩)
        have HR1 : Hid (supL ⟨G, R, S, J, V⟩ = l → rdS l = ⟨G, R, S, J, V⟩ ∧ rdE l = 0) := hide (fun e => HR.out _ (by unfold readS; rw [HD.out, if_pos ⟨hll, hm, e⟩]))
        have HN1 : Hid (¬ supL ⟨G, R, S, J, V⟩ = l → rdS l = sup0 ∧ rdE l = 6) := hide (fun e => HN.out (by unfold readS; rw [HD.out, if_neg (fun h => e h.2.2)]))
        clear HR HN hm HD
        generalize supL ⟨G, R, S, J, V⟩ = SL at *
        go_wp2_with fail
        refine HBY.out.mono ?_
        rintro e w6 ⟨q, rfl, hq, hrow, hb6⟩
        have HB6 := hide (HB5.out.trans (hb6.mono HB5.out.size))
        have HX6 := hide ((hb6.block _ (heap_lt HX5.out)).trans HX5.out)
        have HY6 := hide ((hb6.block _ (heap_lt HY5.out)).trans HY5.out)
        have HEQ := hide (equal_any (some ⟨q, 0, none⟩) (some ⟨b, off, none⟩) 4096 4096 4096 cap SL l w6 (hrow.isB HLT.out) (H.out.below HB6.out))
        clear hq hrow hb6 HBY HB5 HX5 HY5 q0 q1 q2 q3 q4
        have y0 := cell_bk (j := 0) HX6.out rfl
        have y1 := cell_bk (j := 1) HX6.out rfl
        have y2 := cell_bk (j := 2) HX6.out rfl
        have y3 := cell_bk (j := 3) HX6.out rfl
        have y4 := cell_bk (j := 4) HX6.out rfl
        have q0 := cell_bk (j := 0) HY6.out rfl
        have q1 := cell_bk (j := 1) HY6.out rfl
        have q2 := cell_bk (j := 2) HY6.out rfl
        have q3 := cell_bk (j := 3) HY6.out rfl
        have q4 := cell_bk (j := 4) HY6.out rfl
        simp only [List.getElem_toArray, List.getElem_cons_zero, List.getElem_cons_succ] at y0 y1 y2 y3 y4 q0 q1 q2 q3 q4
        have f0 := froz_bk HX6.out 0
        have f1 := froz_bk HX6.out 1
        have f2 := froz_bk HX6.out 2
        have f3 := froz_bk HX6.out 3
        have f4 := froz_bk HX6.out 4
        by_cases he : SL = l
        · have HZ := hide (HR1.out he)
          rw [show decide (SL = l) = true from decide_eq_true he] at HEQ
          clear HR1 HN1 he
          go_wp2_with fail
          refine HEQ.out.mono ?_
          rintro e w7 ⟨rfl, rfl⟩
          go_wp2
          (try simp only [Exit.inBlock, Exit.then])
          refine bodyPost_ret (resS2 rfl _ _ w.heap.size #[.int .u64 (G : Nat), .int .i64 (R : Nat), .int .u64 (S : Nat), .int .i64 (J : Nat), .int .i64 (V : Nat)] (blk5 HX6.out _ _ _ _ _) rfl rfl) rfl ?_
          exact ⟨by rw [HZ.out.1, HZ.out.2]; rfl, below5 HB6.out (Nat.le_refl _) _ _ _ _ _⟩
        · have HZ := hide (HN1.out he)
          rw [show decide (SL = l) = false from decide_eq_false he] at HEQ
          clear HR1 HN1 he
          go_wp2_with fail
          refine HEQ.out.mono ?_
          rintro e w7 ⟨rfl, rfl⟩
          go_wp2
          (try simp only [Exit.inBlock, Exit.then])
          refine bodyPost_ret (resS2 rfl _ _ w.heap.size #[.int .u64 0, .int .i64 0, .int .u64 0, .int .i64 0, .int .i64 0] (blk5 HX6.out _ _ _ _ _) rfl rfl) rfl ?_
          exact ⟨by rw [HZ.out.1, HZ.out.2]; rfl, below5 HB6.out (Nat.le_refl _) _ _ _ _ _⟩
  · have d0 : ((len : Int) != 4096) = true := by simp; omega
    have HZ := hide (HN.out (by unfold readS; rw [if_neg (fun e => hl (by rw [← HL.out]; exact e.1))]))
    clear HR HN h hl
    go_enter Try.func11, Try.ntmps11
    go_wp2
    (try simp only [Exit.inBlock, Exit.then])
    refine bodyPost_ret (resS2 rfl _ _ w.heap.size #[.int .u64 0, .int .i64 0, .int .u64 0, .int .i64 0, .int .i64 0] HX.out rfl rfl) rfl ?_
    exact ⟨by rw [HZ.out.1, HZ.out.2]; rfl, HB0.out⟩
end Go.Proofs.Ytecmfpgccmmlpaa
