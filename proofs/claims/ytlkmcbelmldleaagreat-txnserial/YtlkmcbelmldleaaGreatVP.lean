/- comparisons: strings.Compare, cmp.Compare, cmp.Or; how versions and writes are sorted -/
import Derived.Test.YtlkmcbelmldleaaGreatVO
import Derived.Test.YtlkmcbelmldleaaGreatVJl
namespace Go.Proofs.YtlkmcbelmldleaaGreat
open Go.RowKit Go.Shelf Go.Lib Go.Sort
set_option maxRecDepth 40000
theorem data_toList (a : ByteArray) : a.data.toList = a.toList := (ByteArray.toList_eq a).symm
theorem cmpB_lt : ∀ a b : List UInt8, (Lib.compareBytes a b < 0) ↔ Op.bytesLess a b = true
  | [], [] => by simp [Lib.compareBytes, Op.bytesLess]
  | [], _ :: _ => by simp [Lib.compareBytes, Op.bytesLess]
  | _ :: _, [] => by simp [Lib.compareBytes, Op.bytesLess]
  | x :: r, y :: s => by
    have ih := cmpB_lt r s
    unfold Lib.compareBytes
    simp only [Op.bytesLess, Bool.or_eq_true, Bool.and_eq_true, decide_eq_true_eq, beq_iff_eq]
    by_cases h : x < y
    · simp [h]
    · by_cases h2 : y < x
      · rw [if_neg h, if_pos h2]
        have ne : x ≠ y := fun e => by subst e; exact h h2
        simp [h, ne]
      · rw [if_neg h, if_neg h2]
        have e : x = y := by
          rw [UInt8.lt_iff_toNat_lt] at h h2
          exact UInt8.toNat_inj.1 (by omega)
        simp [e, ih]
theorem cmpB_gt : ∀ a b : List UInt8, (0 < Lib.compareBytes a b) ↔ Op.bytesLess b a = true
  | [], [] => by simp [Lib.compareBytes, Op.bytesLess]
  | [], _ :: _ => by simp [Lib.compareBytes, Op.bytesLess]
  | _ :: _, [] => by simp [Lib.compareBytes, Op.bytesLess]
  | x :: r, y :: s => by
    have ih := cmpB_gt r s
    unfold Lib.compareBytes
    simp only [Op.bytesLess, Bool.or_eq_true, Bool.and_eq_true, decide_eq_true_eq, beq_iff_eq]
    by_cases h : x < y
    · rw [if_pos h]
      have h2 : ¬ y < x := fun h2 => by rw [UInt8.lt_iff_toNat_lt] at h h2; omega
      have ne : y ≠ x := fun e => by subst e; exact h2 h
      simp [h2, ne]
    · by_cases h2 : y < x
      · rw [if_neg h, if_pos h2]
        simp [h2]
      · rw [if_neg h, if_neg h2]
        have e : x = y := by
          rw [UInt8.lt_iff_toNat_lt] at h h2
          exact UInt8.toNat_inj.1 (by omega)
        simp [e, ih]
theorem cmpB_zero (a b : List UInt8) : Lib.compareBytes a b = 0 ↔ a = b := by
  constructor
  · intro h
    refine less_tri a b ?_ ?_
    · cases hb : Op.bytesLess a b
      · rfl
      · have := (cmpB_lt a b).2 hb; omega
    · cases hb : Op.bytesLess b a
      · rfl
      · have := (cmpB_gt a b).2 hb; omega
  · rintro rfl
    have h1 : ¬ Lib.compareBytes a a < 0 := fun h => by rw [cmpB_lt, less_irrefl] at h; cases h
    have h2 : ¬ 0 < Lib.compareBytes a a := fun h => by rw [cmpB_gt, less_irrefl] at h; cases h
    omega
theorem cmpS_any (a b : ByteArray) (w : World) : Calls Tryz.prog 66 #[.string a, .string b] w fun e w' => e = .returned (.int .i64 (Lib.compareBytes a.toList b.toList)) ∧ w' = w := by
  have := Any.strings_Compare Tryz.cmpS a b w
  change Calls Tryz.prog 66 _ _ _ at this
  rw [data_toList, data_toList] at this
  exact this
def cmpN (a b : Nat) : Int := if a < b then -1 else if b < a then 1 else 0
theorem nan_any (a : Nat) (w : World) : Calls Tryz.prog 100 #[.int .u64 (a : Nat)] w fun e w' => e = .returned (.bool false) ∧ w' = w := by
  go_enter Tryz.func100, Tryz.ntmps100
  go_wp2
  go_ret
  exact ⟨rfl, rfl⟩
theorem ret_int {a b : Int} (h : a = b) : Ending.returned (.int .i64 a) = .returned (.int .i64 b) := by rw [h]
theorem cmpU_any (a b : Nat) (w : World) : Calls Tryz.prog 67 #[.int .u64 (a : Nat), .int .u64 (b : Nat)] w fun e w' => e = .returned (.int .i64 (cmpN a b)) ∧ w' = w := by
  have HT : Hid (cmpN a b = if a < b then -1 else if b < a then 1 else 0) := hide rfl
  generalize cmpN a b = r at *
  have h1 := fun W => nan_any a W
  have h2 := fun W => nan_any b W
  rcases Nat.lt_trichotomy a b with h | h | h
  · go_enter Tryz.func67, Tryz.ntmps67
    go_wp2_with (first | (go_at_call 100; refine (nan_any _ _).mono ?_; rintro e w' ⟨rfl, rfl⟩))
    all_goals go_ret
    all_goals exact ⟨ret_int (by rw [HT.out, if_pos h]), rfl⟩
  · subst h
    go_enter Tryz.func67, Tryz.ntmps67
    go_wp2_with (first | (go_at_call 100; refine (nan_any _ _).mono ?_; rintro e w' ⟨rfl, rfl⟩))
    all_goals go_ret
    all_goals exact ⟨ret_int (by rw [HT.out]; simp), rfl⟩
  · go_enter Tryz.func67, Tryz.ntmps67
    go_wp2_with (first | (go_at_call 100; refine (nan_any _ _).mono ?_; rintro e w' ⟨rfl, rfl⟩))
    all_goals go_ret
    all_goals exact ⟨ret_int (by rw [HT.out, if_neg (by omega), if_pos h]), rfl⟩
set_option maxRecDepth 40000 in
/-- cmp.Or of two numbers -/
theorem or_any (a b : Int) (g c : Nat) (w : World) (h0 : w.cell? ⟨g, 0, none⟩ = some (.int .i64 a)) (h1 : w.cell? ⟨g, 1, none⟩ = some (.int .i64 b)) : Calls Tryz.prog 65 #[.slice (some ⟨g, 0, none⟩) 2 c] w fun e w' => e = .returned (.int .i64 (if a = 0 then b else a)) ∧ w' = w := by
  generalize hr : (if a = 0 then b else a) = r
  have HR := hide hr
  clear hr
  go_enter Tryz.func65, Tryz.ntmps65
  go_wp2
  go_loopw [8] (fun v wr => ∃ k : Nat, k ≤ 2 ∧ v = .int .i64 k ∧ wr = w ∧ Hid (1 ≤ k → a = 0) ∧ Hid (2 ≤ k → b = 0)) (fun v _ => 2 - (intOf v).toNat)
  case atStart => exact ⟨0, by omega, rfl, rfl, hide (fun h => by omega), hide (fun h => by omega)⟩
  case round =>
    obtain ⟨k, hk, rfl, rfl, HA, HB⟩ := hrel
    obtain rfl | rfl | rfl : k = 0 ∨ k = 1 ∨ k = 2 := by omega
    · by_cases ha : a = 0
      · subst ha
        go_wp2
        go_roundw
        case rel => exact ⟨1, by omega, by simp, trivial, hide (fun _ => trivial), hide (fun h => by omega)⟩
        case measure => simp [intOf]
      · have hb : (a != 0) = true := by simpa using ha
        go_wp2
        go_ret
        exact ⟨ret_int (by rw [← HR.out, if_neg ha]), rfl⟩
    · by_cases ha : b = 0
      · subst ha
        go_wp2
        go_roundw
        case rel => exact ⟨2, by omega, by simp, trivial, hide (fun _ => HA.out (by omega)), hide (fun _ => trivial)⟩
        case measure => simp [intOf]
      · have hb : (b != 0) = true := by simpa using ha
        go_wp2
        go_ret
        exact ⟨ret_int (by rw [← HR.out, if_pos (HA.out (by omega))]), rfl⟩
    · go_wp2
      go_ret
      exact ⟨ret_int (by rw [← HR.out, if_pos (HA.out (by omega)), HB.out (by omega)]), rfl⟩
/-- how two versions stand to one another -/
def cfV (x y : Vr) : Int := if Lib.compareBytes x.key.toList y.key.toList = 0 then cmpN x.at_ y.at_ else Lib.compareBytes x.key.toList y.key.toList
set_option maxRecDepth 40000 in
set_option maxHeartbeats 1000000 in
theorem put1_any (x y : Vr) (W : World) : Calls Tryz.prog 64 #[.agg (vrc x).toArray, .agg (vrc y).toArray] W fun e w' => e = .returned (.int .i64 (cfV x y)) ∧ ∃ q os', w' = grow (W.drewN q) os' := by
  obtain ⟨x1, x2, x3, x4⟩ := x
  obtain ⟨y1, y2, y3, y4⟩ := y
  show Calls Tryz.prog 64 #[.agg #[.string x1, .int .u64 (x2 : Nat), .string x3, .bool x4], .agg #[.string y1, .int .u64 (y2 : Nat), .string y3, .bool y4]] W _
  have HCF : Hid (cfV ⟨x1, x2, x3, x4⟩ ⟨y1, y2, y3, y4⟩ = if Lib.compareBytes x1.toList y1.toList = 0 then cmpN x2 y2 else Lib.compareBytes x1.toList y1.toList) := hide rfl
  have HC1 := hide (fun W => cmpS_any x1 y1 W)
  have HC2 := hide (fun W => cmpU_any x2 y2 W)
  generalize cfV ⟨x1, x2, x3, x4⟩ ⟨y1, y2, y3, y4⟩ = r at *
  generalize Lib.compareBytes x1.toList y1.toList = c1 at *
  generalize cmpN x2 y2 = c2 at *
  have hmix := mixed
  have HGR : Hid (∀ o, ∃ q os', ((W.alloc (.cells #[.string x1, .int .u64 (x2 : Nat), .string x3, .bool x4] 66)).alloc (.cells #[.string y1, .int .u64 (y2 : Nat), .string y3, .bool y4] 66)).drew.alloc o = grow (W.drewN q) os') := hide (fun o => ⟨1, _, by rw [alloc_eq_grow, alloc_eq_grow, alloc_eq_grow, grow_grow, drew_grow, grow_grow]; rfl⟩)
  have hbx : ((W.alloc (.cells #[.string x1, .int .u64 (x2 : Nat), .string x3, .bool x4] 66)).alloc (.cells #[.string y1, .int .u64 (y2 : Nat), .string y3, .bool y4] 66)).heap[W.heap.size]? = some (.cells #[.string x1, .int .u64 (x2 : Nat), .string x3, .bool x4] 66 (0, 0)) := (heap_alloc_old _ _ _ (by simp)).trans (heap_alloc_new _ _)
  have hby := heap_alloc_new (W.alloc (.cells #[.string x1, .int .u64 (x2 : Nat), .string x3, .bool x4] 66)) (.cells #[.string y1, .int .u64 (y2 : Nat), .string y3, .bool y4] 66)
  simp only [World.size_alloc] at hby
  go_enter Tryz.func64, Tryz.ntmps64
  go_wp2_with fail
  generalize ((W.alloc (.cells #[.string x1, .int .u64 (x2 : Nat), .string x3, .bool x4] 66)).alloc (.cells #[.string y1, .int .u64 (y2 : Nat), .string y3, .bool y4] 66)) = V at *
  have HS : Hid (∀ W' : World, Below V.heap.size V W' → W'.cell? ⟨W.heap.size, 0, none⟩ = some (.string x1) ∧ W'.cell? ⟨W.heap.size + 1, 0, none⟩ = some (.string y1) ∧ W'.cell? ⟨W.heap.size, 1, none⟩ = some (.int .u64 (x2 : Nat)) ∧ W'.cell? ⟨W.heap.size + 1, 1, none⟩ = some (.int .u64 (y2 : Nat))) := hide (fun W' hb => by
    have e1 := (hb.block _ (heap_lt hbx)).trans hbx
    have e2 := (hb.block _ (heap_lt hby)).trans hby
    exact ⟨cell_blk e1 rfl, cell_blk e2 rfl, cell_blk e1 rfl, cell_blk e2 rfl⟩)
  have HB0 : Hid (Below V.heap.size V V.drew) := hide (Below.refl _ _).drew
  have HB1 : Hid (∀ o, Below V.heap.size V (V.drew.alloc o)) := hide (fun o => (Below.refl _ _).drew.alloc (Nat.le_refl _) o)
  have HOR : Hid (∀ o, o = .cells #[.int .i64 c1, .int .i64 c2] 3 → ∀ c, Calls Tryz.prog 65 #[.slice (some ⟨V.heap.size, 0, none⟩) 2 c] (V.drew.alloc o) fun e w' => e = .returned (.int .i64 r) ∧ w' = V.drew.alloc o) := hide (fun o ho c => by
    subst ho
    rw [HCF.out]
    have hn := heap_alloc_new V.drew (.cells #[.int .i64 c1, .int .i64 c2] 3)
    exact or_any c1 c2 V.heap.size c _ (cell_blk hn rfl) (cell_blk hn rfl))
  clear hbx hby
  go_region_held (fun W' : World => W'.cell? ⟨W.heap.size, 0, none⟩ = some (.string x1) ∧ W'.cell? ⟨W.heap.size + 1, 0, none⟩ = some (.string y1) ∧ W'.cell? ⟨W.heap.size, 1, none⟩ = some (.int .u64 (x2 : Nat)) ∧ W'.cell? ⟨W.heap.size + 1, 1, none⟩ = some (.int .u64 (y2 : Nat))) (first | exact HS.out _ HB0.out | exact HS.out _ (HB1.out _)) (first | (go_at_call 66; refine (HC1.out _).mono ?_; rintro e w' ⟨rfl, rfl⟩) | (go_at_call 67; refine (HC2.out _).mono ?_; rintro e w' ⟨rfl, rfl⟩) | (go_at_call 65; refine (HOR.out _ rfl _).mono ?_; rintro e w' ⟨rfl, rfl⟩))
  all_goals go_wp2
  all_goals go_ret
  all_goals exact ⟨rfl, HGR.out _⟩
end Go.Proofs.YtlkmcbelmldleaaGreat
