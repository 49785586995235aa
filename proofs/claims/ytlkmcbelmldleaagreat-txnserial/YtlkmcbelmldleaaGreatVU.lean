/- writes: CompactFunc, twice -/
import Derived.Test.YtlkmcbelmldleaaGreatVT
namespace Go.Proofs.YtlkmcbelmldleaaGreat
open Go.RowKit Go.Shelf Go.Lib Go.Sort
set_option maxRecDepth 40000
/-- a row of writes, known from a place on -/
def RowF (w : World) (g n lo : Nat) (l : List Wt) : Prop :=
  ∃ cur : Array Value, w.heap[g]? = some (.cells cur 64 (0, 0)) ∧ n * 3 ≤ cur.size ∧ ∀ j, lo ≤ j → j < n → cur[j * 3]? = some (.string (l.getD j Wt0).key) ∧ cur[j * 3 + 1]? = some (.string (l.getD j Wt0).val) ∧ cur[j * 3 + 2]? = some (.bool (l.getD j Wt0).gone)
theorem RowF.lt {w : World} {g n lo : Nat} {l : List Wt} (h : RowF w g n lo l) : g < w.heap.size := by obtain ⟨_, h, _⟩ := h; exact heap_lt h
theorem RowF.blk {w w' : World} {g n lo : Nat} {l : List Wt} (h : RowF w g n lo l) (hb : w'.heap[g]? = w.heap[g]?) : RowF w' g n lo l := by
  obtain ⟨cur, h1, h2⟩ := h
  exact ⟨cur, hb.trans h1, h2⟩
theorem RowF.mono {w : World} {g n lo lo' : Nat} {l : List Wt} (h : RowF w g n lo l) (hl : lo ≤ lo') : RowF w g n lo' l := by
  obtain ⟨cur, h1, h2, h3⟩ := h
  exact ⟨cur, h1, h2, fun j hj hn => h3 j (by omega) hn⟩
theorem RowF.at {w : World} {g n lo : Nat} {l : List Wt} (h : RowF w g n lo l) {j : Nat} (h1 : lo ≤ j) (h2 : j < n) : w.cell? ⟨g, j * 3, none⟩ = some (.string (l.getD j Wt0).key) ∧ w.cell? ⟨g, j * 3 + 1, none⟩ = some (.string (l.getD j Wt0).val) ∧ w.cell? ⟨g, j * 3 + 2, none⟩ = some (.bool (l.getD j Wt0).gone) := by
  obtain ⟨cur, hb, _, h3⟩ := h
  obtain ⟨q1, q2, q3⟩ := h3 j h1 h2
  exact ⟨cell_blk hb q1, cell_blk hb q2, cell_blk hb q3⟩
theorem RowF.froz {w : World} {g n lo : Nat} {l : List Wt} (h : RowF w g n lo l) (j : Nat) : w.frozen? ⟨g, j, none⟩ = false := by obtain ⟨_, h, _⟩ := h; exact frz h j
theorem RowF.some {w : World} {g n lo : Nat} {l : List Wt} (h : RowF w g n lo l) {j : Nat} (hj : j < n * 3) : ∃ v, w.cell? ⟨g, j, none⟩ = some v := by
  obtain ⟨cur, hb, h2, _⟩ := h
  exact ⟨cur[j]'(by omega), cell_blk hb (Array.getElem?_eq_getElem _)⟩
theorem RowF.set {w : World} {g n lo : Nat} {l : List Wt} (h : RowF w g n lo l) {j : Nat} (hj : j < lo * 3) (v : Value) : RowF (w.setCell ⟨g, j, none⟩ v) g n lo l := by
  obtain ⟨cur, hb, h2, h3⟩ := h
  refine ⟨_, blk_set2 hb v, by simpa using h2, fun i h1 hn => ?_⟩
  obtain ⟨q1, q2, q3⟩ := h3 i h1 hn
  rw [Array.getElem?_setIfInBounds_ne (by omega), Array.getElem?_setIfInBounds_ne (by omega), Array.getElem?_setIfInBounds_ne (by omega)]
  exact ⟨q1, q2, q3⟩
theorem own_rowF {w : World} {base g cap n : Nat} {l : List Wt} (hl : l.length = n) (h : w.ownsRow base 64 3 (.slice (some ⟨g, 0, none⟩) n cap) n (l.flatMap wtc)) : RowF w g n 0 l ∧ base ≤ g ∧ n ≤ cap ∧ cap ≤ maxLen := by
  rcases h.2 with ⟨e, _⟩ | ⟨g', cap', cur, e, hb, hg, h1, h2, h3, h4⟩
  · cases e
  cases e
  refine ⟨⟨cur, hg, by rw [h3]; exact Nat.mul_le_mul_right 3 h1, fun j _ hj => ?_⟩, hb, h1, h2⟩
  have key : ∀ c, c < 3 → cur[j * 3 + c]? = (wtc (l.getD j Wt0))[c]? := fun c hc => by
    rw [← flat_at wtc Wt0 3 (fun _ => rfl) l j c (by omega) hc, ← h4, List.getElem?_take, if_pos (by omega), Array.getElem?_toList]
  exact ⟨key 0 (by omega), key 1 (by omega), key 2 (by omega)⟩
/-- clear(s) of writes -/
theorem run_clear3 (w : World) (b o n c : Nat) (hn : 0 < n) (hc : ∀ j, j < n * 3 → (w.cell? ⟨b, o + j, none⟩).isSome = true) (hf : ∀ j, j < n * 3 → w.frozen? ⟨b, o + j, none⟩ = false) :
    ∃ zs : List Value, ∀ ty : TypeId, (Builtin.clear_ #[41] ty #[.slice (some ⟨b, o, none⟩) n c]).run Tryz.prog w = .ok (.tuple #[]) (w.setCells b o zs) := by
  have hv : ∀ w, (zeroValue 64).run Tryz.prog w = .ok (.agg #[.string ⟨#[]⟩, .string ⟨#[]⟩, .bool false]) w := Tryz.zeroValue64
  have hl : (Builtin.zeroCells (Value.agg #[.string ⟨#[]⟩, .string ⟨#[]⟩, .bool false]).cells n).toList.length = n * 3 := by rw [Array.length_toList, size_zeroCells]; rfl
  have h1 : ∀ v ∈ (Builtin.zeroCells (Value.agg #[.string ⟨#[]⟩, .string ⟨#[]⟩, .bool false]).cells n).toList, v.oneCell' = true := by
    intro v hv'
    simp only [Builtin.zeroCells, Array.mem_toList_iff, Array.mem_map] at hv'
    obtain ⟨i, _, rfl⟩ := hv'
    show ((Value.agg #[.string ⟨#[]⟩, .string ⟨#[]⟩, .bool false]).cells[i % 3]!).oneCell' = true
    have hm : i % 3 < 3 := Nat.mod_lt _ (by decide)
    generalize i % 3 = m at hm
    rcases (by omega : m = 0 ∨ m = 1 ∨ m = 2) with rfl | rfl | rfl <;> rfl
  have hst := run_storeCells_cells (P := Tryz.prog) b o (Builtin.zeroCells (Value.agg #[.string ⟨#[]⟩, .string ⟨#[]⟩, .bool false]).cells n).toList 0 w (by rw [hl]; simpa using hc) (by rw [hl]; simpa using hf) h1
  simp only [Nat.add_zero] at hst
  refine ⟨(Builtin.zeroCells (Value.agg #[.string ⟨#[]⟩, .string ⟨#[]⟩, .bool false]).cells n).toList, fun ty => ?_⟩
  obtain ⟨m, rfl⟩ : ∃ m, n = m + 1 := ⟨n - 1, by omega⟩
  simp [Builtin.clear_, run_underlying Tryz.underlying41, hv, hst]
theorem below_setCells (q : Nat) : ∀ (vs : List Value) (o : Nat) {n : Nat} {a w : World}, Below n a w → n ≤ q → Below n a (w.setCells q o vs)
  | [], _, _, _, _, h, _ => h
  | v :: r, o, _, _, _, h, hn => below_setCells q r (o + 1) (h.setCell hn v) hn
/-- two neighbours have one key -/
def eqAt (l : List Wt) (i : Nat) : Bool := (l.getD (i + 1) Wt0).key.toList == (l.getD i Wt0).key.toList
set_option maxRecDepth 40000 in
set_option maxHeartbeats 4000000 in
theorem compactW_any (base g cap n : Nat) (l : List Wt) (w : World) (hl : l.length = n) (hn : n ≤ 4096) (hown : w.ownsRow base 64 3 (.slice (some ⟨g, 0, none⟩) n cap) n (l.flatMap wtc)) :
    Calls Tryz.prog 126 #[.slice (some ⟨g, 0, none⟩) n cap, .func (.func 123) #[] #[]] w fun e w' => ∃ m c', e = .returned (.slice (some ⟨g, 0, none⟩) m c') ∧ (m < n ↔ ∃ i, i + 1 < n ∧ eqAt l i = true) ∧ m ≤ n ∧ Below base w w' := by
  obtain ⟨hrow, hbg, hnc, hcm⟩ := own_rowF hl hown
  have hcm : cap ≤ 9223372036854775807 := hcm
  have HROW := hide hrow
  have HBG := hide hbg
  have HLT := hide hrow.lt
  have hmix := mixed
  clear hown hrow hbg hl
  by_cases h2 : n < 2
  · have h2I : (n : Int) < 2 := by omega
    go_enter Tryz.func126, Tryz.ntmps126
    go_wp2
    go_ret
    exact ⟨n, cap, rfl, ⟨fun h => absurd h (Nat.lt_irrefl _), fun ⟨i, hi, _⟩ => by omega⟩, Nat.le_refl _, Below.refl _ _⟩
  have h2I : ¬ (n : Int) < 2 := by omega
  go_enter Tryz.func126, Tryz.ntmps126
  go_wp2
  go_loopw [5] (fun v wr => ∃ i : Nat, 1 ≤ i ∧ i ≤ n ∧ v = .int .i64 i ∧ Hid (RowF wr g n 0 l ∧ Below w.heap.size w wr ∧ ∀ j, j + 1 < i → eqAt l j = false)) (fun v _ => n - (intOf v).toNat)
  case atStart => exact ⟨1, by omega, by omega, rfl, hide ⟨HROW.out, Below.refl _ _, fun j hj => by omega⟩⟩
  case round =>
    obtain ⟨i, hi1, hin, rfl, HI⟩ := hrel
    by_cases hlt : i < n
    · obtain ⟨i, rfl⟩ : ∃ k, i = k + 1 := ⟨i - 1, by omega⟩
      obtain ⟨a0, a1, a2⟩ := HI.out.1.at (Nat.zero_le _) hlt
      obtain ⟨b0, b1, b2⟩ := HI.out.1.at (Nat.zero_le _) (show i < n by omega)
      have HEQ : Hid (eqAt l i = ((l.getD (i + 1) Wt0).key.toList == (l.getD i Wt0).key.toList)) := hide rfl
      generalize l.getD (i + 1) Wt0 = x at *
      generalize l.getD i Wt0 = y at *
      obtain ⟨x1, x2, x3⟩ := x
      obtain ⟨y1, y2, y3⟩ := y
      dsimp only at a0 a1 a2 b0 b1 b2 HEQ
      have hw1 : IntKind.i64.wrap ((i : Int) + 1 - 1) = (i : Int) := by rw [wr64' (by omega) (by omega)]; omega
      have hw2 : IntKind.i64.wrap ((i : Int) + 1 + 1) = (i : Int) + 1 + 1 := wr64' (by omega) (by omega)
      have hw3 : IntKind.i64.wrap (i : Int) = (i : Int) := wr64' (by omega) (by omega)
      have hi2 : (i : Int) + 1 < (n : Int) := by omega
      have hi3 : (i : Int) < (n : Int) := by omega
      have hi4 : (0 : Int) ≤ (i : Int) := by omega
      have hi5 : (0 : Int) ≤ (i : Int) + 1 := by omega
      have HT := hide (fun W => twice2_any ⟨x1, x2, x3⟩ ⟨y1, y2, y3⟩ W)
      have HGR := hide HI.out.1.lt
      have HSB : Hid (∀ W' : World, Below wr.heap.size wr W' → W'.cell? ⟨g, (i + 1) * 3, none⟩ = some (.string x1) ∧ W'.cell? ⟨g, (i + 1) * 3 + 1, none⟩ = some (.string x2) ∧ W'.cell? ⟨g, (i + 1) * 3 + 2, none⟩ = some (.bool x3) ∧ W'.cell? ⟨g, i * 3, none⟩ = some (.string y1) ∧ W'.cell? ⟨g, i * 3 + 1, none⟩ = some (.string y2) ∧ W'.cell? ⟨g, i * 3 + 2, none⟩ = some (.bool y3)) := hide (fun W' hb => by
        have k : ∀ j, W'.cell? ⟨g, j, none⟩ = wr.cell? ⟨g, j, none⟩ := fun j => World.cell?_of_block (hb.block g HGR.out)
        exact ⟨(k _).trans a0, (k _).trans a1, (k _).trans a2, (k _).trans b0, (k _).trans b1, (k _).trans b2⟩)
      have HB0 : Hid (Below wr.heap.size wr wr.drew) := hide (Below.refl _ _).drew
      clear a0 a1 a2 b0 b1 b2
      go_wp2_with fail
      cases hq : (x1.toList == y1.toList)
      · go_region_held (fun W' : World => W'.cell? ⟨g, (i + 1) * 3, none⟩ = some (.string x1) ∧ W'.cell? ⟨g, (i + 1) * 3 + 1, none⟩ = some (.string x2) ∧ W'.cell? ⟨g, (i + 1) * 3 + 2, none⟩ = some (.bool x3) ∧ W'.cell? ⟨g, i * 3, none⟩ = some (.string y1) ∧ W'.cell? ⟨g, i * 3 + 1, none⟩ = some (.string y2) ∧ W'.cell? ⟨g, i * 3 + 2, none⟩ = some (.bool y3)) (first | exact HSB.out _ HB0.out | exact HSB.out _ (HB0.out.trans (by assumption))) (first | (go_at_call 123; refine (HT.out _).mono ?_; rintro e w' ⟨rfl, hb⟩; dsimp only; rw [hq]))
        have HB1 : Hid (Below wr.heap.size wr w') := hide (HB0.out.trans hb)
        have HI1 : Hid (RowF w' g n 0 l ∧ Below w.heap.size w w' ∧ ∀ j, j + 1 < i + 1 + 1 → eqAt l j = false) := hide ⟨HI.out.1.blk (HB1.out.block g HGR.out), HI.out.2.1.trans (HB1.out.mono HI.out.2.1.size), fun j hj => by
          by_cases h : j + 1 < i + 1
          · exact HI.out.2.2 j h
          · obtain rfl : j = i := by omega
            rw [HEQ.out, hq]⟩
        clear hb HSB
        go_wp2
        go_roundw
        case rel => exact ⟨i + 1 + 1, by omega, by omega, by simp, HI1⟩
        case measure => simp [intOf]; omega
      · go_region_held (fun W' : World => W'.cell? ⟨g, (i + 1) * 3, none⟩ = some (.string x1) ∧ W'.cell? ⟨g, (i + 1) * 3 + 1, none⟩ = some (.string x2) ∧ W'.cell? ⟨g, (i + 1) * 3 + 2, none⟩ = some (.bool x3) ∧ W'.cell? ⟨g, i * 3, none⟩ = some (.string y1) ∧ W'.cell? ⟨g, i * 3 + 1, none⟩ = some (.string y2) ∧ W'.cell? ⟨g, i * 3 + 2, none⟩ = some (.bool y3)) (first | exact HSB.out _ HB0.out | exact HSB.out _ (HB0.out.trans (by assumption))) (first | (go_at_call 123; refine (HT.out _).mono ?_; rintro e w' ⟨rfl, hb⟩; dsimp only; rw [hq]))
        have HB1 : Hid (Below wr.heap.size wr w') := hide (HB0.out.trans hb)
        have HR1 : Hid (RowF w' g n (i + 1) l) := hide ((HI.out.1.blk (HB1.out.block g HGR.out)).mono (Nat.zero_le _))
        have HW1 : Hid (Below base w w') := hide ((HI.out.2.1.trans (HB1.out.mono HI.out.2.1.size)).mono (Nat.le_trans HBG.out (Nat.le_of_lt HLT.out)))
        have HEX : Hid (∃ j, j + 1 < n ∧ eqAt l j = true) := hide ⟨i, by omega, by rw [HEQ.out, hq]⟩
        have hc1 : (i : Int) + 1 ≤ (cap : Int) := by omega
        have hc2 : ¬ cap = i + 1 := by omega
        have hc3 : (i : Int) + 1 ≤ (n : Int) := by omega
        clear hb HSB HT HEQ HI HB0 HB1 hq
        go_wp2
        generalize hO : (i + 1) * 3 = o at *
        have HO := hide hO
        generalize hM : n - (i + 1) = m at *
        have HM := hide hM
        generalize hC : cap - (i + 1) = c2 at *
        have HC := hide hC
        have hm1 : 1 ≤ m := by omega
        have hmc : m ≤ c2 := by omega
        have hcc : c2 ≤ 9223372036854775807 := by omega
        have HIN : Hid (i + 1 + m = n) := hide (by omega)
        clear hO hM hC
        generalize hWq : w' = W1 at *
        clear hWq
        go_loopw [5, 7] (fun v5 v7 wr => ∃ ii k : Nat, k + 1 ≤ m ∧ i + 1 ≤ ii ∧ ii ≤ i + 1 + k ∧ v5 = .int .i64 (ii : Nat) ∧ v7 = .int .i64 ((k + 1 : Nat) : Int) ∧ Hid (RowF wr g n (i + 1 + k) l ∧ Below base w wr)) (fun _ v7 _ => m - (intOf v7).toNat)
        case atStart => exact ⟨i + 1, 0, hm1, Nat.le_refl _, Nat.le_refl _, by simp, by simp, hide ⟨HR1.out, HW1.out⟩⟩
        case round =>
          obtain ⟨ii, k, hkm, hii1, hii2, rfl, rfl, HI⟩ := hrel
          have hin2 : ii < n := by have := HIN.out; omega
          by_cases hlt2 : k + 1 < m
          · have HAT : Hid (i + 1 + (k + 1) < n ∧ i + 1 + k < n) := hide (by have := HIN.out; omega)
            have HXY : Hid (∃ x y : Wt, ∀ W' : World, Below wr.heap.size wr W' → W'.cell? ⟨g, o + (k + 1) * 3, none⟩ = some (.string x.key) ∧ W'.cell? ⟨g, o + (k + 1) * 3 + 1, none⟩ = some (.string x.val) ∧ W'.cell? ⟨g, o + (k + 1) * 3 + 2, none⟩ = some (.bool x.gone) ∧ W'.cell? ⟨g, o + k * 3, none⟩ = some (.string y.key) ∧ W'.cell? ⟨g, o + k * 3 + 1, none⟩ = some (.string y.val) ∧ W'.cell? ⟨g, o + k * 3 + 2, none⟩ = some (.bool y.gone)) := hide (by
              refine ⟨l.getD (i + 1 + (k + 1)) Wt0, l.getD (i + 1 + k) Wt0, fun W' hb => ?_⟩
              have kk : ∀ j, W'.cell? ⟨g, j, none⟩ = wr.cell? ⟨g, j, none⟩ := fun j => World.cell?_of_block (hb.block g HI.out.1.lt)
              obtain ⟨a0, a1, a2⟩ := HI.out.1.at (by omega) HAT.out.1
              obtain ⟨b0, b1, b2⟩ := HI.out.1.at (Nat.le_refl _) HAT.out.2
              rw [show (i + 1 + (k + 1)) * 3 = o + (k + 1) * 3 by rw [← HO.out]; omega] at a0 a1 a2
              rw [show (i + 1 + k) * 3 = o + k * 3 by rw [← HO.out]; omega] at b0 b1 b2
              exact ⟨(kk _).trans a0, (kk _).trans a1, (kk _).trans a2, (kk _).trans b0, (kk _).trans b1, (kk _).trans b2⟩)
            obtain ⟨⟨x1, x2, x3⟩, ⟨y1, y2, y3⟩, hxy⟩ := HXY.out
            have HSB := hide hxy
            dsimp only at HSB
            have HT := hide (fun W => twice2_any ⟨x1, x2, x3⟩ ⟨y1, y2, y3⟩ W)
            have HB0 : Hid (Below wr.heap.size wr wr.drew) := hide (Below.refl _ _).drew
            have HGR := hide HI.out.1.lt
            have hw1 : IntKind.i64.wrap ((k : Int) + 1 - 1) = (k : Int) := by rw [wr64' (by omega) (by omega)]; omega
            have hw2 : IntKind.i64.wrap ((k : Int) + 1 + 1) = (k : Int) + 1 + 1 := wr64' (by omega) (by omega)
            have hw3 : IntKind.i64.wrap (k : Int) = (k : Int) := wr64' (by omega) (by omega)
            have hw4 : IntKind.i64.wrap ((ii : Int) + 1) = (ii : Int) + 1 := wr64' (by omega) (by omega)
            have hk2 : (k : Int) + 1 < (m : Int) := by omega
            have hk3 : (k : Int) < (m : Int) := by omega
            have hk4 : (0 : Int) ≤ (k : Int) := by omega
            have hk5 : (0 : Int) ≤ (k : Int) + 1 := by omega
            have hiiI : (ii : Int) < (n : Int) := by omega
            have hii0 : (0 : Int) ≤ (ii : Int) := by omega
            clear hxy HXY
            go_wp2_with fail
            cases hq : (x1.toList == y1.toList)
            · go_region_held (fun W' : World => W'.cell? ⟨g, o + (k + 1) * 3, none⟩ = some (.string x1) ∧ W'.cell? ⟨g, o + (k + 1) * 3 + 1, none⟩ = some (.string x2) ∧ W'.cell? ⟨g, o + (k + 1) * 3 + 2, none⟩ = some (.bool x3) ∧ W'.cell? ⟨g, o + k * 3, none⟩ = some (.string y1) ∧ W'.cell? ⟨g, o + k * 3 + 1, none⟩ = some (.string y2) ∧ W'.cell? ⟨g, o + k * 3 + 2, none⟩ = some (.bool y3)) (first | exact HSB.out _ HB0.out | exact HSB.out _ (HB0.out.trans (by assumption))) (first | (go_at_call 123; refine (HT.out _).mono ?_; rintro e w' ⟨rfl, hb⟩; dsimp only; rw [hq]))
              have HB1 : Hid (Below wr.heap.size wr w') := hide (HB0.out.trans hb)
              have HRW : Hid (RowF w' g n (i + 1 + (k + 1)) l) := hide ((HI.out.1.blk (HB1.out.block g HGR.out)).mono (by omega))
              have HBW : Hid (Below base w w') := hide (HI.out.2.trans (HB1.out.mono (Nat.le_trans HBG.out (Nat.le_of_lt HGR.out))))
              obtain ⟨e0, e1, e2, _, _, _⟩ := HSB.out w' HB1.out
              obtain ⟨u0, d0⟩ := HRW.out.some (j := ii * 3) (by omega)
              obtain ⟨u1, d1⟩ := HRW.out.some (j := ii * 3 + 1) (by omega)
              obtain ⟨u2, d2⟩ := HRW.out.some (j := ii * 3 + 2) (by omega)
              have f1 := HRW.out.froz
              have HR3 : Hid (RowF (((w'.setCell ⟨g, ii * 3, none⟩ (.string x1)).setCell ⟨g, ii * 3 + 1, none⟩ (.string x2)).setCell ⟨g, ii * 3 + 2, none⟩ (.bool x3)) g n (i + 1 + (k + 1)) l ∧ Below base w (((w'.setCell ⟨g, ii * 3, none⟩ (.string x1)).setCell ⟨g, ii * 3 + 1, none⟩ (.string x2)).setCell ⟨g, ii * 3 + 2, none⟩ (.bool x3))) := hide ⟨((HRW.out.set (by omega) _).set (by omega) _).set (by omega) _, ((HBW.out.setCell (p := ⟨g, ii * 3, none⟩) HBG.out _).setCell (p := ⟨g, ii * 3 + 1, none⟩) HBG.out _).setCell (p := ⟨g, ii * 3 + 2, none⟩) HBG.out _⟩
              clear hb HSB HT HB0
              go_wp2
              go_roundw
              case rel => exact ⟨ii + 1, k + 1, by omega, by omega, by omega, by simp, by simp, HR3⟩
              case measure => simp [intOf]; omega
            · go_region_held (fun W' : World => W'.cell? ⟨g, o + (k + 1) * 3, none⟩ = some (.string x1) ∧ W'.cell? ⟨g, o + (k + 1) * 3 + 1, none⟩ = some (.string x2) ∧ W'.cell? ⟨g, o + (k + 1) * 3 + 2, none⟩ = some (.bool x3) ∧ W'.cell? ⟨g, o + k * 3, none⟩ = some (.string y1) ∧ W'.cell? ⟨g, o + k * 3 + 1, none⟩ = some (.string y2) ∧ W'.cell? ⟨g, o + k * 3 + 2, none⟩ = some (.bool y3)) (first | exact HSB.out _ HB0.out | exact HSB.out _ (HB0.out.trans (by assumption))) (first | (go_at_call 123; refine (HT.out _).mono ?_; rintro e w' ⟨rfl, hb⟩; dsimp only; rw [hq]))
              have HB1 : Hid (Below wr.heap.size wr w') := hide (HB0.out.trans hb)
              have HI1 : Hid (RowF w' g n (i + 1 + (k + 1)) l ∧ Below base w w') := hide ⟨(HI.out.1.blk (HB1.out.block g HGR.out)).mono (by omega), HI.out.2.trans (HB1.out.mono (Nat.le_trans HBG.out (Nat.le_of_lt HGR.out)))⟩
              clear hb HSB HT HB0
              go_wp2
              go_roundw
              case rel => exact ⟨ii, k + 1, by omega, hii1, by omega, rfl, by simp, HI1⟩
              case measure => simp [intOf]; omega
          · obtain rfl : m = k + 1 := by omega
            have hk2 : ¬ (k : Int) + 1 < (k : Int) + 1 := by omega
            have hiiI : (ii : Int) ≤ (n : Int) := by omega
            have hii0 : (0 : Int) ≤ (ii : Int) := by omega
            have hiic : (ii : Int) ≤ (cap : Int) := by omega
            have hne : ¬ cap = ii := by omega
            obtain ⟨zs, hz⟩ := run_clear3 wr g (ii * 3) (n - ii) (cap - ii) (by omega) (fun j hj => by
              obtain ⟨v, hv⟩ := HI.out.1.some (j := ii * 3 + j) (by omega)
              rw [hv]; rfl) (fun j _ => HI.out.1.froz _)
            have HFIN : Hid (Below base w (wr.setCells g (ii * 3) zs)) := hide (below_setCells g zs (ii * 3) HI.out.2 HBG.out)
            go_wp2
            go_ret
            exact ⟨ii, ⟨cap, rfl⟩, ⟨fun _ => HEX.out, fun _ => hin2⟩, Nat.le_of_lt hin2, HFIN.out⟩
    · obtain rfl : i = n := by omega
      go_wp2
      go_ret
      exact ⟨i, cap, rfl, ⟨fun h => absurd h (Nat.lt_irrefl _), fun ⟨j, hj, he⟩ => by rw [HI.out.2.2 j hj] at he; cases he⟩, Nat.le_refl _, HI.out.2.1.mono (Nat.le_trans HBG.out (Nat.le_of_lt HLT.out))⟩
theorem valW_any (a : Option Addr) (len cap : Nat) (w : World) : Calls Tryz.prog 125 #[.slice a len cap] w fun e w' => e = .returned (.func (.func 168) #[] #[.pointer (some ⟨w.heap.size, 0, none⟩)]) ∧ w' = w.alloc (.cells #[.slice a len cap] 41) := by
  go_enter Tryz.func125, Tryz.ntmps125
  go_wp2
  go_ret
  exact ⟨rfl, rfl⟩
/-- a key is there more than once -/
def twiceB (l : List Wt) : Bool := !decide ((l.map (fun x => x.key.toList)).Nodup)
theorem twice_perm {l l' : List Wt} (h : l'.Perm l) : twiceB l' = twiceB l := by
  unfold twiceB
  rw [decide_eq_decide.2 ((h.map (fun x => x.key.toList)).nodup_iff)]
theorem twice_adj {l : List Wt} {n : Nat} (hl : l.length = n) (hs : ∀ i j, i < j → j < n → Op.bytesLess (l.getD j Wt0).key.toList (l.getD i Wt0).key.toList = false) : (∃ i, i + 1 < n ∧ eqAt l i = true) ↔ twiceB l = true := by
  have hg : ∀ i, i < l.length → (l.map (fun x => x.key.toList))[i]? = some (l.getD i Wt0).key.toList := fun i hi => by
    rw [List.getElem?_map, List.getD_eq_getElem?_getD, List.getElem?_eq_getElem hi]; rfl
  unfold twiceB
  simp only [Bool.not_eq_true', decide_eq_false_iff_not]
  constructor
  · rintro ⟨i, hi, he⟩ hn
    have h1 := hg i (by omega)
    have h2 := hg (i + 1) (by omega)
    have e : (l.getD (i + 1) Wt0).key.toList = (l.getD i Wt0).key.toList := by unfold eqAt at he; simpa using he
    rw [e] at h2
    have := (List.getElem?_inj (by rw [List.length_map]; omega) hn).1 (h1.trans h2.symm)
    omega
  · intro hn
    refine Classical.byContradiction fun hno => hn ?_
    have hstep : ∀ i, i + 1 < l.length → Op.bytesLess (l.getD i Wt0).key.toList (l.getD (i + 1) Wt0).key.toList = true := fun i hi => by
      cases hb : Op.bytesLess (l.getD i Wt0).key.toList (l.getD (i + 1) Wt0).key.toList
      · exfalso
        refine hno ⟨i, by omega, ?_⟩
        have := less_tri _ _ hb (hs i (i + 1) (by omega) (by omega))
        unfold eqAt
        rw [this]; simp
      · rfl
    have hlt : ∀ d i, i + d + 1 < l.length → Op.bytesLess (l.getD i Wt0).key.toList (l.getD (i + d + 1) Wt0).key.toList = true := fun d => by
      induction d with
      | zero => intro i hi; exact hstep i hi
      | succ d ih =>
        intro i hi
        exact less_trans _ _ _ (ih i (by omega)) (hstep (i + d + 1) (by omega))
    rw [List.nodup_iff_pairwise_ne, List.pairwise_iff_getElem]
    intro i j hi hj hij he
    rw [List.length_map] at hi hj
    have h1 := hg i hi
    have h2 := hg j hj
    rw [List.getElem?_eq_getElem (by rw [List.length_map]; exact hi)] at h1
    rw [List.getElem?_eq_getElem (by rw [List.length_map]; exact hj)] at h2
    rw [Option.some.inj h1, Option.some.inj h2] at he
    have := hlt (j - i - 1) i (by omega)
    rw [show i + (j - i - 1) + 1 = j by omega, he, less_irrefl] at this
    cases this
/-- slices.CompactFunc of no writes -/
theorem compactW_none (a : Option Addr) (c : Nat) (fv : Value) (w : World) : Calls Tryz.prog 126 #[.slice a 0 c, fv] w fun e w' => e = .returned (.slice a 0 c) ∧ w' = w := by
  go_enter Tryz.func126, Tryz.ntmps126
  go_wp2
  go_ret
  exact ⟨rfl, rfl⟩
set_option maxRecDepth 40000 in
/-- mvcc.twice -/
theorem twice_any (a : Option Addr) (len cap : Nat) (l : List Wt) (w : World) (hL : IsW w a len cap l) (hlen : len ≤ 4096) : Calls Tryz.prog 95 #[.slice a len cap] w fun e w' => e = .returned (.bool (twiceB l)) ∧ Below w.heap.size w w' := by
  have HV := hide hL
  have HLN := hide hL.1
  have HLE := hide hlen
  have hcm : cap ≤ 9223372036854775807 := hL.2.2.1
  have hcap := hL.2.1
  have HB0 : Hid (Below w.heap.size w (w.alloc (.cells #[.slice a len cap] 41))) := hide ((Below.refl _ w).alloc (Nat.le_refl _) _)
  have HSO := hide (sortedW_any w.heap.size a len cap l _ (Boxed.new w 41 (.slice a len cap)) (hL.below HB0.out) hlen)
  clear hL hlen
  go_enter Tryz.func95, Tryz.ntmps95
  go_wp2_with fail
  refine (valW_any a len cap w).mono ?_
  rintro e w1 ⟨rfl, rfl⟩
  go_wp2_with fail
  refine HSO.out.mono ?_
  rintro e w2 ⟨v, l', rfl, q1, q2, q3, q4⟩
  have HT : Hid ((∃ i, i + 1 < len ∧ eqAt l' i = true) ↔ twiceB l = true) := hide (by rw [← twice_perm q1]; exact twice_adj (q1.length_eq.trans HLN.out) q2)
  have HB2 : Hid (Below w.heap.size w w2) := hide (HB0.out.trans (q4.mono HB0.out.size))
  have hl' : l'.length = len := q1.length_eq.trans HLN.out
  rcases q3.2 with ⟨rfl, rfl⟩ | ⟨g, cp, cur, rfl, h1, _⟩
  · have HE : Hid (twiceB l = false) := hide (by
      cases hb : twiceB l
      · rfl
      · obtain ⟨i, hi, _⟩ := HT.out.2 hb; omega)
    clear q1 q2 q3 q4 HSO hl' HV
    go_wp2_with fail
    refine (compactW_none none 0 _ w2).mono ?_
    rintro e w3 ⟨rfl, rfl⟩
    go_wp2
    go_ret
    exact ⟨by rw [HE.out]; rfl, HB2.out⟩
  · have HC := hide (compactW_any (w.alloc (.cells #[.slice a len cap] 41)).heap.size g cp len l' w2 hl' HLE.out q3)
    have HBW : Hid (w.heap.size ≤ (w.alloc (.cells #[.slice a len cap] 41)).heap.size) := hide HB0.out.size
    clear q1 q2 q3 q4 HSO hl' HV h1
    go_wp2_with fail
    refine HC.out.mono ?_
    rintro e w3 ⟨m, c', rfl, hm1, hm2, hb⟩
    have HB3 : Hid (Below w.heap.size w w3) := hide (HB2.out.trans (hb.mono HBW.out))
    have HM : Hid (m < len ↔ twiceB l = true) := hide (hm1.trans HT.out)
    clear hb hm1 HC HT
    by_cases hlt : m < len
    · have hltI : decide ((m : Int) < (len : Int)) = true := decide_eq_true (by omega)
      have hltN : decide (m < len) = true := decide_eq_true hlt
      have HE : Hid (twiceB l = true) := hide (HM.out.1 hlt)
      clear HM
      go_wp2
      go_ret
      exact ⟨by rw [HE.out]; simp, HB3.out⟩
    · have hltI : decide ((m : Int) < (len : Int)) = false := decide_eq_false (by omega)
      have hltN : decide (m < len) = false := decide_eq_false hlt
      have HE : Hid (twiceB l = false) := hide (by
        cases hb : twiceB l
        · rfl
        · exact absurd (HM.out.2 hb) hlt)
      clear HM
      go_wp2
      go_ret
      exact ⟨by rw [HE.out]; simp, HB3.out⟩
end Go.Proofs.YtlkmcbelmldleaaGreat
