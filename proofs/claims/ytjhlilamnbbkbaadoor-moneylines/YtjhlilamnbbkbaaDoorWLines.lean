/- the walk of MoneyLines -/
import Derived.Test.YtjhlilamnbbkbaaDoorL3
namespace Go.Proofs.YtjhlilamnbbkbaaDoor
open Go.RowKit Go.Shelf Go.Sort Go.Lib
theorem tot_bad {l : List Ln} (h : (tot l).2 ≠ 0) : (tot l).1 = 0 := by
  unfold tot at h ⊢
  split at h
  · rename_i h1; rw [if_pos h1]
  · rename_i h1
    rw [if_neg h1]
    split at h
    · rename_i h2
      rw [if_pos h2]
      unfold err at h
      unfold num
      split at h
      · exact absurd rfl h
      · rename_i h3; exact if_neg h3
    · rename_i h2; rw [if_neg h2]
set_option maxHeartbeats 2000000 in
set_option maxRecDepth 20000 in
/-- ladinglaw01.MoneyLines -/
theorem lines_any (s : Option Addr) (len cap : Nat) (l : List Ln) (by_ : Int) (w : World) (htab : POW w) (hl : IsL w s len cap l) (_hby : In64 by_) :
    Calls Tryd.prog 10 #[.slice s len cap, .int .i64 by_] w fun e w' => e = .returned (.bool true) ∧ Below w.heap.size w w' := by
  have HT := hide htab
  clear htab
  have S1 := hide (fun W (h : Below w.heap.size w W) => total_any s len cap l W (hl.below h))
  have hll := hl.1
  by_cases hok : (tot l).2 = 0
  · obtain ⟨_, hl16, hfit, he, hin⟩ := tot_turn 0 hok
    obtain ⟨c, hturn⟩ : ∃ c, Hid (tot (turn l c) = tot l ∧ (0 < len → ∃ r : Int, by_.tmod (len : Int) = r ∧ -(len : Int) < r ∧ r < (len : Int) ∧ c < len ∧ ∀ i : Nat, i < len → ∃ j : Nat, j < len ∧ ((i : Int) + r + (len : Int)) % (len : Int) = (j : Int) ∧ j = (i + c) % len)) := by
      by_cases h0 : 0 < len
      · obtain ⟨r, c, h1, h2, h3, h4, h5⟩ := turn_at by_ len h0
        exact ⟨c, hide ⟨(tot_turn c hok).1, fun _ => ⟨r, h1, h2, h3, h4, h5⟩⟩⟩
      · exact ⟨0, hide ⟨(tot_turn 0 hok).1, fun h => absurd h h0⟩⟩
    have hsums : sums (prods l) = ((prods l).sum, 0) := by
      unfold sums
      rw [if_neg (by simp [prods]; omega), num_in hin, err_in hin]
    have HSU := hide hsums
    have HTT : Hid (tot (turn l c) = ((prods l).sum, 0)) := hide (by rw [hturn.out.1, he])
    have hxs := hl.2.2.2.1
    rw [he] at S1
    have HPB := hide (prods_bd hfit)
    have HLB := hide (fun x (hx : x ∈ turn l c) => hxs x (turn_mem hx))
    have htl := turn_len l c
    replace hfit := hide hfit
    clear hok he hsums hin hxs
    generalize hN : (prods l).sum = N at *
    clear hN
    go_enter Tryd.func10, Tryd.ntmps10
    go_wp2_with fail
    refine (lives_any _ HT.out).mono ?_
    rintro e w1 ⟨rfl, h1⟩
    go_wp2_with fail
    refine (S1.out _ h1).mono ?_
    rintro e w2 ⟨rfl, h2⟩
    replace h1 := h1.trans (h2.mono h1.size)
    clear h2 S1
    go_wp2_with fail
    obtain ⟨i0, hi, hz0, hz1, hz2⟩ := info_parts Tryd.info2
    obtain ⟨i4, hi4, hy0, hy1, hy2⟩ := info_parts Tryd.info41
    go_loopw [7, 8, 9, 10, 11, 12, 30] (fun v7 v8 _ _ _ _ i wr => ∃ (k : Nat), k ≤ len ∧ i = .int .i64 k ∧ wr.ownsRow w.heap.size 2 1 v7 k (iv (prods (l.take k))) ∧ wr.ownsRow w.heap.size 41 4 v8 k (lv ((turn l c).take k)) ∧ Below w.heap.size w wr) (fun _ _ _ _ _ _ i _ => len - (RowKit.intOf i).toNat)
    case atStart => exact ⟨0, by omega, rfl, World.ownsRow_nil _ _ _ _, World.ownsRow_nil _ _ _ _, h1⟩
    case round =>
      obtain ⟨k, hk, rfl, ho7, ho8, hb⟩ := hrel
      have hbs := hb.size
      by_cases hlt : k < len
      · obtain ⟨b, off, rfl, hlt0, hcell⟩ := hl.2.2.2.2.resolve_left (by omega)
        obtain ⟨r, m1, r1, r2, hc, hj⟩ := hturn.out.2 (by omega)
        obtain ⟨j, hjl, m2, hje⟩ := hj k hlt
        have n0 : ¬ ((len : Int) = 0) := by omega
        have n1 : ((len : Int) == 0) = false := by simpa using n0
        obtain ⟨c0, c1, c2, c3⟩ := hcell j hjl
        have hgt := turn_get l c k j (by omega) (by omega) (by rw [hje, hll])
        have d0 : wr.cell? ⟨b, off + j * 4, none⟩ = _ := (hb.cell (p := ⟨b, off + j * 4, none⟩) hlt0).trans c0
        have d1 : wr.cell? ⟨b, off + j * 4 + 1, none⟩ = _ := (hb.cell (p := ⟨b, off + j * 4 + 1, none⟩) hlt0).trans c1
        have d2 : wr.cell? ⟨b, off + j * 4 + 2, none⟩ = _ := (hb.cell (p := ⟨b, off + j * 4 + 2, none⟩) hlt0).trans c2
        have d3 : wr.cell? ⟨b, off + j * 4 + 3, none⟩ = _ := (hb.cell (p := ⟨b, off + j * 4 + 3, none⟩) hlt0).trans c3
        have HTK : Hid ((turn l c).take (k + 1) = (turn l c).take k ++ [l.getD j Ln0]) := hide (by rw [take_snocL _ k (by omega), hgt])
        have HTL := hide (take_snocL l k (by omega))
        clear c0 c1 c2 c3 hgt hje
        generalize hX : l.getD j Ln0 = X at *
        clear hX
        obtain ⟨x0, x1, x2, x3⟩ := X
        simp only at d0 d1 d2 d3
        go_wp2_with (at_builtin; refine wpList_append_own _ rfl (.tmp 45) (.tmp 50) 29 rfl w.heap.size 41 i4 (.agg #[.int .i64 0, .int .i64 0, .int .i64 0, .int .i64 0]) 4 32 Tryd.underlying29 hi4 hy0 hy1 hy2 rfl (by decide) _ _ _ rfl (ho8.alloc _) ⟨wr.heap.size, 0, none⟩ 1 1 (lv1 ⟨x0, x1, x2, x3⟩) rfl rfl (lv1_new _ _ _) (lv1_one _) ?c3 ?c4 ?c5 ?_)
        case c3 => unfold maxLen; omega
        case c4 => omega
        case c5 => simp; omega
        intro v8' w4 ho8' hgrow _
        have ho7' := (ho7.alloc _).kept hgrow (own_ne (by decide) ho7 ho8)
        have hb4 : Below w.heap.size w w4 := (hb.alloc (by omega) _).grown hgrow (by simp; omega) (fun k hk => (ho8.lt k hk).1)
        rw [lv_snoc, ← HTK.out] at ho8'
        obtain ⟨c0, c1, c2, c3⟩ := hcell k hlt
        have q2 : w4.cell? ⟨b, off + k * 4 + 2, none⟩ = _ := (hb4.cell (p := ⟨b, off + k * 4 + 2, none⟩) hlt0).trans c2
        have q3 : w4.cell? ⟨b, off + k * 4 + 3, none⟩ = _ := (hb4.cell (p := ⟨b, off + k * 4 + 3, none⟩) hlt0).trans c3
        have hfk : offB (l.getD k Ln0) = false := by
          have h5 := hfit.out
          unfold fit at h5
          rw [List.all_eq_true] at h5
          have h6 := h5 (l.getD k Ln0) (by rw [List.getD_eq_getElem?_getD, List.getElem?_eq_getElem (by omega)]; exact List.getElem_mem _)
          simpa using h6
        have hpb := prod_bd (offB_false hfk)
        obtain ⟨o1, o2, o3, o4⟩ := offB_false hfk
        have MU := hide (fun W => mul_any (l.getD k Ln0).qty (l.getD k Ln0).unit W ⟨by omega, by omega⟩ ⟨by omega, by omega⟩)
        have hpin : In64 ((l.getD k Ln0).qty * (l.getD k Ln0).unit) := ⟨by omega, by omega⟩
        rw [num_in hpin, err_in hpin] at MU
        have HP : Hid (prods (l.take (k + 1)) = prods (l.take k) ++ [(l.getD k Ln0).qty * (l.getD k Ln0).unit]) := hide (by rw [HTL.out]; simp [prods])
        clear c0 c1 c2 c3 hfk hpb o1 o2 o3 o4 hpin HTL HTK d0 d1 d2 d3 hcell hgrow hb ho7 ho8 m1 m2 hj
        generalize l.getD k Ln0 = y at *
        obtain ⟨y0, y1, y2, y3⟩ := y
        simp only at q2 q3 MU HP
        generalize y2 * y3 = p at *
        have e0 : ((0 : Int) != 0) = false := rfl
        have hb4s := hb4.size
        go_wp2_with fail
        go_quiet (exact Calls.quiet_of_same (MU.out _))
        have ho7'' : (w4.drewN nq).ownsRow w.heap.size 2 1 u7 k (iv (prods (l.take k))) := ho7'
        go_wp2_with (at_builtin; refine wpList_append_own _ rfl _ _ 22 rfl w.heap.size 2 i0 (.int .i64 0) 1 8 Tryd.underlying22 hi hz0 hz1 hz2 rfl (by decide) _ _ _ rfl (ho7''.alloc _) ⟨w4.heap.size, 0, none⟩ 1 1 [.int .i64 p] rfl rfl (one_new _ _ _) (one_cell _) ?c3 ?c4 ?c5 ?_)
        case c3 => unfold maxLen; omega
        case c4 => omega
        case c5 => simp; omega
        intro v7' w5 ho7n hgrow _
        have ho8n : w5.ownsRow w.heap.size 41 4 v8' (k + 1) (lv ((turn l c).take (k + 1))) := (World.ownsRow.alloc (w := w4.drewN nq) ho8' _).kept hgrow (own_ne (w := w4.drewN nq) (by decide) ho8' ho7'')
        have hb5 : Below w.heap.size w w5 := ((below_drewN hb4 nq).alloc (by simp; omega) _).grown hgrow (by simp; omega) (fun k hk => (ho7'.lt k hk).1)
        rw [iv_snoc, ← HP.out] at ho7n
        clear hgrow ho7' ho7'' ho8' hb4
        go_wp2
        go_roundw
        case rel => exact ⟨k + 1, by omega, by go_num, ho7n, ho8n, hb5⟩
        case measure => simp [RowKit.intOf]; omega
      · have hkl : len = k := by omega
        subst hkl
        rw [List.take_of_length_le (by omega)] at ho7 ho8
        obtain ⟨a7, c7, rfl, hI⟩ := own_isI ho7 HPB.out
        obtain ⟨a8, c8, rfl, hL⟩ := own_isL ho8 HLB.out
        clear ho7 ho8 hlt hk
        have tN : (N == N) = true := by simp
        go_wp2_with fail
        refine (sum_any _ _ _ _ _ hI).mono ?_
        rw [HSU.out]
        rintro e w' ⟨rfl, rfl⟩
        go_wp2_with fail
        refine (total_any _ _ _ _ _ hL).mono ?_
        rw [HTT.out]
        rintro e w6 ⟨rfl, h6⟩
        replace hb := hb.trans (h6.mono hb.size)
        go_wp2
        go_ret
        exact ⟨rfl, hb⟩
  · have hz := tot_bad hok
    rw [hz] at S1
    generalize (tot l).2 = E at *
    have t0 : (E != 0) = true := by simpa using hok
    clear hz hl
    go_enter Tryd.func10, Tryd.ntmps10
    go_wp2_with fail
    refine (lives_any _ HT.out).mono ?_
    rintro e w1 ⟨rfl, h1⟩
    go_wp2_with fail
    refine (S1.out _ h1).mono ?_
    rintro e w2 ⟨rfl, h2⟩
    replace h1 := h1.trans (h2.mono h1.size)
    clear h2 S1
    go_wp2
    go_ret
    exact ⟨rfl, h1⟩
end Go.Proofs.YtjhlilamnbbkbaaDoor
