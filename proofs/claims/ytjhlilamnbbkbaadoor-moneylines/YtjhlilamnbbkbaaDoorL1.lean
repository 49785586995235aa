/- contracts: Total -/
import Derived.Test.YtjhlilamnbbkbaaDoorWShares
namespace Go.Proofs.YtjhlilamnbbkbaaDoor
open Go.RowKit Go.Shelf Go.Sort Go.Lib
/-- a line: item, ware, quantity, unit -/
structure Ln where
  item : Int
  ware : Int
  qty : Int
  unit : Int
def Ln0 : Ln := ⟨0, 0, 0, 0⟩
/-- a slice of lines reads as l -/
def IsL (w : World) (a : Option Addr) (len cap : Nat) (l : List Ln) : Prop :=
  l.length = len ∧ len ≤ cap ∧ cap ≤ maxLen ∧ (∀ x ∈ l, In64 x.item ∧ In64 x.ware ∧ In64 x.qty ∧ In64 x.unit) ∧ (len = 0 ∧ (a = none → cap = 0) ∨ ∃ b off, a = some ⟨b, off, none⟩ ∧ b < w.heap.size ∧
    ∀ i, i < len → w.cell? ⟨b, off + i * 4, none⟩ = some (.int .i64 (l.getD i Ln0).item) ∧ w.cell? ⟨b, off + i * 4 + 1, none⟩ = some (.int .i64 (l.getD i Ln0).ware) ∧ w.cell? ⟨b, off + i * 4 + 2, none⟩ = some (.int .i64 (l.getD i Ln0).qty) ∧ w.cell? ⟨b, off + i * 4 + 3, none⟩ = some (.int .i64 (l.getD i Ln0).unit))
theorem run_mk0 (W : World) (n : Nat) (hb : n ≤ 35184372088832) :
    (Instr.makeSlice 22 (.int .i64 0) (.int .i64 (n : Int))).run Tryd.prog W = .ok (.slice (some ⟨W.heap.size, 0, none⟩) 0 n) (W.alloc (.cells (zer n).toArray 2)) := by
  obtain ⟨i0, hi, hz0, hz1, hz2⟩ := info_parts Tryd.info2
  have hr := run_make (P := Tryd.prog) W 22 2 i0 _ Tryd.underlying22 hi hz0 .i64 .i64 0 (n : Int) (by omega) (by omega) (by rw [hz2]; omega) (by omega)
  rw [hr, hz1]
  simp only [Int.toNat_natCast, Nat.mul_one, Int.toNat_zero]
  rw [show (Value.int IntKind.i64 0).cells = #[Value.int .i64 0] from rfl, zer_made]
/-- beyond the limits -/
def offB (x : Ln) : Bool := decide (x.qty < 1) || decide (1048576 < x.qty) || decide (x.unit < 0) || decide (1099511627776 < x.unit)
def fit (l : List Ln) : Bool := l.all fun x => !offB x
def prods (l : List Ln) : List Int := l.map fun x => x.qty * x.unit
/-- what Total answers -/
def tot (l : List Ln) : Int × Int := if 16 < l.length then (0, 3) else if fit l then (num (prods l).sum, err (prods l).sum) else (0, 2)
theorem offB_false {x : Ln} (h : offB x = false) : 1 ≤ x.qty ∧ x.qty ≤ 1048576 ∧ 0 ≤ x.unit ∧ x.unit ≤ 1099511627776 := by
  unfold offB at h
  simp only [Bool.or_eq_false_iff, decide_eq_false_iff_not] at h
  omega
theorem prod_bd {q u : Int} (h : 1 ≤ q ∧ q ≤ 1048576 ∧ 0 ≤ u ∧ u ≤ 1099511627776) : 0 ≤ q * u ∧ q * u ≤ 1152921504606846976 := by
  obtain ⟨h1, h2, h3, h4⟩ := h
  constructor
  · exact Int.mul_nonneg (by omega) h3
  · exact Int.le_trans (Int.mul_le_mul_of_nonneg_right h2 h3) (Int.le_trans (Int.mul_le_mul_of_nonneg_left h4 (by decide)) (by decide))
theorem take_snocL (l : List Ln) (k : Nat) (h : k < l.length) : l.take (k + 1) = l.take k ++ [l.getD k Ln0] := by
  rw [List.take_succ_eq_append_getElem h, List.getD_eq_getElem?_getD, List.getElem?_eq_getElem h]; rfl
theorem fit_off (l : List Ln) (k : Nat) (h : k < l.length) (ho : offB (l.getD k Ln0) = true) : fit l = false := by
  unfold fit
  rw [List.all_eq_false]
  refine ⟨l[k], List.getElem_mem h, ?_⟩
  rw [List.getD_eq_getElem?_getD, List.getElem?_eq_getElem h] at ho
  simpa using ho
theorem prods_bd {l : List Ln} (h : fit l = true) : ∀ x ∈ prods l, -9223372036854775808 ≤ x ∧ x ≤ 9223372036854775807 := by
  intro x hx
  simp only [prods, List.mem_map] at hx
  obtain ⟨y, hy, rfl⟩ := hx
  unfold fit at h
  rw [List.all_eq_true] at h
  have h2 := prod_bd (offB_false (by simpa using h y hy))
  omega
theorem tot_off {l : List Ln} (hl : l.length ≤ 16) (h : fit l = false) : tot l = (0, 2) := by
  unfold tot; rw [if_neg (by omega), if_neg (by simp [h])]
theorem tot_fit {l : List Ln} (hl : l.length ≤ 16) (h : fit l = true) : tot l = (num (prods l).sum, err (prods l).sum) := by
  unfold tot; rw [if_neg (by omega), if_pos h]
theorem wrap64_in {n : Int} (h : -9223372036854775808 ≤ n ∧ n ≤ 9223372036854775807) : wrap64 n = n := by unfold wrap64; omega
theorem one_new1 (W : World) (o : Obj) (x : Int) (f : Nat × Nat) : ∀ j u, [Value.int .i64 x][j]? = some u → ((W.alloc o).alloc (.cells #[.int .i64 x] 2 f)).cell? ((⟨W.heap.size + 1, 0, none⟩ : Addr).add j) = some u := by
  have h := one_new (W.alloc o) x f
  have e : (W.alloc o).heap.size = W.heap.size + 1 := by simp
  rw [e] at h
  exact h
theorem offB_true {x : Ln} (h : offB x = true) : (x.qty < 1) ∨ (¬ x.qty < 1 ∧ 1048576 < x.qty) ∨ (¬ x.qty < 1 ∧ ¬ 1048576 < x.qty ∧ x.unit < 0) ∨ (¬ x.qty < 1 ∧ ¬ 1048576 < x.qty ∧ ¬ x.unit < 0 ∧ 1099511627776 < x.unit) := by
  unfold offB at h
  simp only [Bool.or_eq_true, decide_eq_true_eq] at h
  omega
set_option maxHeartbeats 1000000 in
theorem total_some (b off len cap : Nat) (l : List Ln) (w : World) (h : IsL w (some ⟨b, off, none⟩) len cap l) (hpos : 0 < len) (hlen : len ≤ 16) :
    Calls Tryd.prog 21 #[.slice (some ⟨b, off, none⟩) len cap] w fun e w' => e = .returned (.tuple #[.int .i64 (tot l).1, .int .i64 (tot l).2]) ∧ Below w.heap.size w w' := by
  have hl := h.1
  obtain ⟨_, _, eb, hlt0, hcell⟩ := h.2.2.2.2.resolve_left (by omega)
  cases eb
  have hmk := fun W => run_mk0 W len (by omega)
  have t1 : ¬ (16 : Int) < (len : Int) := by omega
  go_enter Tryd.func21, Tryd.ntmps21
  go_wp2_with fail
  have hown0 : (w.alloc (.cells (zer len).toArray 2)).ownsRow w.heap.size 2 1 (.slice (some ⟨w.heap.size, 0, none⟩) 0 len) 0 [] := World.ownsRow_made w _ len (Nat.le_refl _) (by unfold maxLen; omega) (by simp [zer])
  have hb0 : Below w.heap.size w (w.alloc (.cells (zer len).toArray 2)) := (Below.refl _ _).alloc (Nat.le_refl _) _
  clear hmk
  generalize w.alloc (.cells (zer len).toArray 2) = w1 at *
  obtain ⟨i0, hi, hz0, hz1, hz2⟩ := info_parts Tryd.info2
  go_loopw [4, 6, 15] (fun v _ i wr => ∃ (k : Nat), k ≤ len ∧ i = .int .i64 k ∧ Hid (fit (l.take k) = true) ∧ wr.ownsRow w.heap.size 2 1 v k (iv (prods (l.take k))) ∧ Below w.heap.size w wr) (fun _ _ i _ => len - (RowKit.intOf i).toNat)
  case atStart => exact ⟨0, by omega, rfl, hide rfl, by simpa [iv, prods] using hown0, hb0⟩
  case round =>
    obtain ⟨k, hk, rfl, hfit, hown, hb⟩ := hrel
    clear hown0 hb0
    have hbs := hb.size
    by_cases hlt : k < len
    · obtain ⟨c0, c1, c2, c3⟩ := hcell k hlt
      have d0 : wr.cell? ⟨b, off + k * 4, none⟩ = _ := (hb.cell (p := ⟨b, off + k * 4, none⟩) hlt0).trans c0
      have d1 : wr.cell? ⟨b, off + k * 4 + 1, none⟩ = _ := (hb.cell (p := ⟨b, off + k * 4 + 1, none⟩) hlt0).trans c1
      have d2 : wr.cell? ⟨b, off + k * 4 + 2, none⟩ = _ := (hb.cell (p := ⟨b, off + k * 4 + 2, none⟩) hlt0).trans c2
      have d3 : wr.cell? ⟨b, off + k * 4 + 3, none⟩ = _ := (hb.cell (p := ⟨b, off + k * 4 + 3, none⟩) hlt0).trans c3
      have HT := hide (take_snocL l k (by omega))
      have HO := hide (fit_off l k (by omega))
      have HN := hide (offB_false (x := l.getD k Ln0))
      clear c0 c1 c2 c3 hcell
      generalize l.getD k Ln0 = x at *
      cases hB : offB x
      · have hin := prod_bd (HN.out hB)
        have hw : wrap64 (x.qty * x.unit) = x.qty * x.unit := wrap64_in (by omega)
        have HF2 : Hid (fit (l.take (k + 1)) = true) := hide (by rw [HT.out]; unfold fit at hfit ⊢; rw [List.all_append, hfit.out]; simp [hB])
        have HP : Hid (prods (l.take (k + 1)) = prods (l.take k) ++ [x.qty * x.unit]) := hide (by rw [HT.out]; simp [prods])
        obtain ⟨e1, e2, e3, e4⟩ := HN.out hB
        clear HT HO HN hin hB
        obtain ⟨n0, n1, q, u⟩ := x
        simp only at d0 d1 d2 d3 hw HP e1 e2 e3 e4
        have g1 : ¬ q < 1 := by omega
        have g2 : ¬ 1048576 < q := by omega
        have g3 : ¬ u < 0 := by omega
        have g4 : ¬ 1099511627776 < u := by omega
        obtain ⟨p, hp⟩ : ∃ p, p = q * u := ⟨_, rfl⟩
        replace hw : wrap64 (q * u) = p := hw.trans hp.symm
        rw [← hp] at HP
        clear hp
        go_wp2_with (at_builtin; (refine wpList_append_own _ rfl _ _ 22 rfl w.heap.size 2 i0 (.int .i64 0) 1 8 Tryd.underlying22 hi hz0 hz1 hz2 rfl (by decide) _ _ _ rfl ((hown.alloc _).alloc _) ⟨wr.heap.size + 1, 0, none⟩ 1 1 [.int .i64 p] rfl rfl (one_new1 _ _ _ _) (one_cell _) ?c3 ?c4 ?c5 ?_))
        case c3 => unfold maxLen; omega
        case c4 => omega
        case c5 => omega
        intro v' w4 hown' hgrow _
        have hb4 : Below w.heap.size w w4 := ((hb.alloc (by omega) _).alloc (by simp; omega) _).grown hgrow (by simp; omega) (fun k hk => (hown.lt k hk).1)
        rw [iv_snoc, ← HP.out] at hown'
        clear hgrow hown hb
        go_wp2
        go_roundw
        case rel => exact ⟨k + 1, by omega, by go_num, HF2, hown', hb4⟩
        case measure => simp [RowKit.intOf]; omega
      · have HE : Hid (tot l = (0, 2)) := hide (tot_off (by omega) (HO.out hB))
        have hc := offB_true hB
        clear HT HO HN hB hown
        obtain ⟨n0, n1, q, u⟩ := x
        simp only at d0 d1 d2 d3 hc
        rcases hc with h1 | ⟨h1, h2⟩ | ⟨h1, h2, h3⟩ | ⟨h1, h2, h3, h4⟩
        all_goals
          go_wp2
          go_ret2
          exact ⟨ret_two (by rw [HE.out]) (by rw [HE.out]), hb.alloc (by omega) _⟩
    · have hkl : len = k := by omega
      subst hkl
      rw [List.take_of_length_le (by omega)] at hfit hown
      have HE : Hid (tot l = (num (prods l).sum, err (prods l).sum)) := hide (tot_fit (by omega) hfit.out)
      obtain ⟨a, c, rfl, hI⟩ := own_isI hown (prods_bd hfit.out)
      clear hown hcell hlt hk
      go_wp2_with fail
      refine (sumUp_any _ _ _ _ _ hI (by omega)).mono ?_
      rintro e w' ⟨rfl, rfl⟩
      go_wp2
      go_ret2
      exact ⟨ret_two (by rw [HE.out]) (by rw [HE.out]), hb⟩
end Go.Proofs.YtjhlilamnbbkbaaDoor
