/- contracts: Total and the document's -/
import Derived.Test.YtjhlilamnbbkbaaDoorL1
namespace Go.Proofs.YtjhlilamnbbkbaaDoor
open Go.RowKit Go.Shelf Go.Sort Go.Lib
theorem tot_nil : tot [] = (0, 0) := by
  rw [tot_fit (by simp) rfl, show prods [] = [] from rfl, List.sum_nil, num_in ⟨by decide, by decide⟩, err_in ⟨by decide, by decide⟩]
theorem total_none (a : Option Addr) (cap : Nat) (w : World) :
    Calls Tryd.prog 21 #[.slice a 0 cap] w fun e w' => e = .returned (.tuple #[.int .i64 0, .int .i64 0]) ∧ Below w.heap.size w w' := by
  have hmk := fun W => run_mk0 W 0 (by omega)
  rw [show ((0 : Nat) : Int) = 0 from rfl] at hmk
  go_enter Tryd.func21, Tryd.ntmps21
  go_wp2_with fail
  have hb0 : Below w.heap.size w (w.alloc (.cells (zer 0).toArray 2)) := (Below.refl _ _).alloc (Nat.le_refl _) _
  clear hmk
  generalize w.alloc (.cells (zer 0).toArray 2) = w1 at *
  go_loop [4, 15] (fun v i => v = .slice (some ⟨w.heap.size, 0, none⟩) 0 0 ∧ i = .int .i64 0) (fun _ _ => 0)
  case atStart => exact ⟨rfl, rfl⟩
  case round =>
    obtain ⟨rfl, rfl⟩ := hrel
    go_wp2_with fail
    refine (sumUp_none (some ⟨w.heap.size, 0, none⟩) 0 w1).mono ?_
    rintro e w' ⟨rfl, rfl⟩
    go_wp2
    go_ret2
    exact ⟨rfl, hb0⟩
theorem total_many (a : Option Addr) (len cap : Nat) (l : List Ln) (w : World) (hl : l.length = len) (h : 16 < len) :
    Calls Tryd.prog 21 #[.slice a len cap] w fun e w' => e = .returned (.tuple #[.int .i64 (tot l).1, .int .i64 (tot l).2]) ∧ Below w.heap.size w w' := by
  have HE : Hid (tot l = (0, 3)) := hide (if_pos (by omega))
  have t1 : (16 : Int) < (len : Int) := by omega
  go_enter Tryd.func21, Tryd.ntmps21
  go_wp2
  go_ret2
  exact ⟨ret_two (by rw [HE.out]) (by rw [HE.out]), Below.refl _ _⟩
/-- money.Total -/
theorem total_any (a : Option Addr) (len cap : Nat) (l : List Ln) (w : World) (h : IsL w a len cap l) :
    Calls Tryd.prog 21 #[.slice a len cap] w fun e w' => e = .returned (.tuple #[.int .i64 (tot l).1, .int .i64 (tot l).2]) ∧ Below w.heap.size w w' := by
  have hl := h.1
  by_cases h1 : 16 < len
  · exact total_many a len cap l w hl h1
  · by_cases h2 : len = 0
    · subst h2
      obtain rfl : l = [] := List.length_eq_zero_iff.1 hl
      rw [tot_nil]
      exact total_none a cap w
    · obtain ⟨b, off, rfl, _, _⟩ := h.2.2.2.2.resolve_left (by omega)
      exact total_some b off len cap l w h (by omega) (by omega)
theorem isI_nil0 (w : World) : IsI w none 0 0 [] := ⟨rfl, Nat.le_refl _, Nat.zero_le _, by simp, .inl ⟨rfl, fun _ => rfl⟩⟩
theorem refTotal_none (a : Option Addr) (cap : Nat) (w : World) :
    Calls Tryd.prog 22 #[.slice a 0 cap] w fun e w' => e = .returned (.tuple #[.int .i64 0, .int .i64 0]) ∧ Below w.heap.size w w' := by
  go_enter Tryd.func22, Tryd.ntmps22
  go_wp2_with fail
  go_loop [4, 12] (fun v i => v = .slice none 0 0 ∧ i = .int .i64 0) (fun _ _ => 0)
  case atStart => exact ⟨rfl, rfl⟩
  case round =>
    obtain ⟨rfl, rfl⟩ := hrel
    go_wp2_with fail
    refine (refSum_any none 0 0 [] w (isI_nil0 w)).mono ?_
    rintro e w' ⟨rfl, rfl⟩
    go_wp2
    go_ret2
    exact ⟨rfl, Below.refl _ _⟩
theorem refTotal_many (a : Option Addr) (len cap : Nat) (l : List Ln) (w : World) (hl : l.length = len) (h : 16 < len) :
    Calls Tryd.prog 22 #[.slice a len cap] w fun e w' => e = .returned (.tuple #[.int .i64 (tot l).1, .int .i64 (tot l).2]) ∧ Below w.heap.size w w' := by
  have HE : Hid (tot l = (0, 3)) := hide (if_pos (by omega))
  have t1 : (16 : Int) < (len : Int) := by omega
  go_enter Tryd.func22, Tryd.ntmps22
  go_wp2
  go_ret2
  exact ⟨ret_two (by rw [HE.out]) (by rw [HE.out]), Below.refl _ _⟩
set_option maxHeartbeats 1000000 in
theorem refTotal_some (b off len cap : Nat) (l : List Ln) (w : World) (h : IsL w (some ⟨b, off, none⟩) len cap l) (hpos : 0 < len) (hlen : len ≤ 16) :
    Calls Tryd.prog 22 #[.slice (some ⟨b, off, none⟩) len cap] w fun e w' => e = .returned (.tuple #[.int .i64 (tot l).1, .int .i64 (tot l).2]) ∧ Below w.heap.size w w' := by
  have hl := h.1
  obtain ⟨_, _, eb, hlt0, hcell⟩ := h.2.2.2.2.resolve_left (by omega)
  cases eb
  have t1 : ¬ (16 : Int) < (len : Int) := by omega
  go_enter Tryd.func22, Tryd.ntmps22
  go_wp2_with fail
  obtain ⟨i0, hi, hz0, hz1, hz2⟩ := info_parts Tryd.info2
  go_loopw [4, 6, 12] (fun v _ i wr => ∃ (k : Nat), k ≤ len ∧ i = .int .i64 k ∧ Hid (fit (l.take k) = true) ∧ wr.ownsRow w.heap.size 2 1 v k (iv (prods (l.take k))) ∧ Below w.heap.size w wr) (fun _ _ i _ => len - (RowKit.intOf i).toNat)
  case atStart => exact ⟨0, by omega, rfl, hide rfl, World.ownsRow_nil _ _ _ _, Below.refl _ _⟩
  case round =>
    obtain ⟨k, hk, rfl, hfit, hown, hb⟩ := hrel
    have hbs := hb.size
    by_cases hlt : k < len
    · obtain ⟨c0, c1, c2, c3⟩ := hcell k hlt
      have d0 : wr.cell? ⟨b, off + k * 4, none⟩ = _ := (hb.cell (p := ⟨b, off + k * 4, none⟩) hlt0).trans c0
      have d1 : wr.cell? ⟨b, off + k * 4 + 1, none⟩ = _ := (hb.cell (p := ⟨b, off + k * 4 + 1, none⟩) hlt0).trans c1
      have d2 : wr.cell? ⟨b, off + k * 4 + 2, none⟩ = _ := (hb.cell (p := ⟨b, off + k * 4 + 2, none⟩) hlt0).trans c2
      have d3 : wr.cell? ⟨b, off + k * 4 + 3, none⟩ = _ := (hb.cell (p := ⟨b, off + k * 4 + 3, none⟩) hlt0).trans c3
      have HT := hide (take_snocL l k (by omega))
      have HO := hide (fit_off l k (by omega))
      have HN := hide (offB_false (x := l.getD k Ln0))
      clear c0 c1 c2 c3 hcell
      generalize l.getD k Ln0 = x at *
      cases hB : offB x
      · have hin := prod_bd (HN.out hB)
        have hw : wrap64 (x.qty * x.unit) = x.qty * x.unit := wrap64_in (by omega)
        have HF2 : Hid (fit (l.take (k + 1)) = true) := hide (by rw [HT.out]; unfold fit at hfit ⊢; rw [List.all_append, hfit.out]; simp [hB])
        have HP : Hid (prods (l.take (k + 1)) = prods (l.take k) ++ [x.qty * x.unit]) := hide (by rw [HT.out]; simp [prods])
        obtain ⟨e1, e2, e3, e4⟩ := HN.out hB
        clear HT HO HN hin hB
        obtain ⟨n0, n1, q, u⟩ := x
        simp only at d0 d1 d2 d3 hw HP e1 e2 e3 e4
        have g1 : ¬ q < 1 := by omega
        have g2 : ¬ 1048576 < q := by omega
        have g3 : ¬ u < 0 := by omega
        have g4 : ¬ 1099511627776 < u := by omega
        obtain ⟨p, hp⟩ : ∃ p, p = q * u := ⟨_, rfl⟩
        replace hw : wrap64 (q * u) = p := hw.trans hp.symm
        rw [← hp] at HP
        clear hp
        go_wp2_with (at_builtin; (refine wpList_append_own _ rfl _ _ 22 rfl w.heap.size 2 i0 (.int .i64 0) 1 8 Tryd.underlying22 hi hz0 hz1 hz2 rfl (by decide) _ _ _ rfl ((hown.alloc _).alloc _) ⟨wr.heap.size + 1, 0, none⟩ 1 1 [.int .i64 p] rfl rfl (one_new1 _ _ _ _) (one_cell _) ?c3 ?c4 ?c5 ?_))
        case c3 => unfold maxLen; omega
        case c4 => omega
        case c5 => omega
        intro v' w4 hown' hgrow _
        have hb4 : Below w.heap.size w w4 := ((hb.alloc (by omega) _).alloc (by simp; omega) _).grown hgrow (by simp; omega) (fun k hk => (hown.lt k hk).1)
        rw [iv_snoc, ← HP.out] at hown'
        clear hgrow hown hb
        go_wp2
        go_roundw
        case rel => exact ⟨k + 1, by omega, by go_num, HF2, hown', hb4⟩
        case measure => simp [RowKit.intOf]; omega
      · have HE : Hid (tot l = (0, 2)) := hide (tot_off (by omega) (HO.out hB))
        have hc := offB_true hB
        clear HT HO HN hB hown
        obtain ⟨n0, n1, q, u⟩ := x
        simp only at d0 d1 d2 d3 hc
        rcases hc with h1 | ⟨h1, h2⟩ | ⟨h1, h2, h3⟩ | ⟨h1, h2, h3, h4⟩
        all_goals
          go_wp2
          go_ret2
          exact ⟨ret_two (by rw [HE.out]) (by rw [HE.out]), hb.alloc (by omega) _⟩
    · have hkl : len = k := by omega
      subst hkl
      rw [List.take_of_length_le (by omega)] at hfit hown
      have HE : Hid (tot l = sums (prods l)) := hide (by rw [tot_fit (by omega) hfit.out]; unfold sums; rw [if_neg (by simp [prods]; omega)])
      obtain ⟨a, c, rfl, hI⟩ := own_isI hown (prods_bd hfit.out)
      clear hown hcell hlt hk
      go_wp2_with fail
      refine (refSum_any _ _ _ _ _ hI).mono ?_
      rintro e w' ⟨rfl, rfl⟩
      go_wp2
      go_ret2
      exact ⟨ret_two (by rw [HE.out]) (by rw [HE.out]), hb⟩
/-- ladingref01.Total -/
theorem refTotal_any (a : Option Addr) (len cap : Nat) (l : List Ln) (w : World) (h : IsL w a len cap l) :
    Calls Tryd.prog 22 #[.slice a len cap] w fun e w' => e = .returned (.tuple #[.int .i64 (tot l).1, .int .i64 (tot l).2]) ∧ Below w.heap.size w w' := by
  have hl := h.1
  by_cases h1 : 16 < len
  · exact refTotal_many a len cap l w hl h1
  · by_cases h2 : len = 0
    · subst h2
      obtain rfl : l = [] := List.length_eq_zero_iff.1 hl
      rw [tot_nil]
      exact refTotal_none a cap w
    · obtain ⟨b, off, rfl, _, _⟩ := h.2.2.2.2.resolve_left (by omega)
      exact refTotal_some b off len cap l w h (by omega) (by omega)
end Go.Proofs.YtjhlilamnbbkbaaDoor
