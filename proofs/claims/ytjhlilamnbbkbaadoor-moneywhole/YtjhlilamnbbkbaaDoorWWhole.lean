/- the walk of MoneyWhole -/
import Derived.Test.YtjhlilamnbbkbaaDoorS2
namespace Go.Proofs.YtjhlilamnbbkbaaDoor
open Go.RowKit Go.Shelf Go.Sort Go.Lib
set_option maxHeartbeats 1000000 in
set_option maxRecDepth 20000 in
/-- ladinglaw01.MoneyWhole -/
theorem whole_any (T : Int) (s : Option Addr) (len cap : Nat) (l : List Int) (w : World) (htab : POW w) (hT : In64 T) (hl : IsI w s len cap l) (hlen : len ≤ 17592186044416) :
    Calls Tryd.prog 8 #[.int .i64 T, .slice s len cap] w fun e w' => e = .returned (.bool true) ∧ Below w.heap.size w w' := by
  have HT := hide htab
  clear htab
  have hll := hl.1
  by_cases hbad : shErr T l = 0
  · obtain ⟨k1, k2, k3, k4⟩ := shErr_ok hbad
    have SG := hide (fun W (h : Below w.heap.size w W) => share_good T s len cap l W hT (hl.below h) hbad)
    have HS := hide (share_sums hT k2 k3 k1)
    have HB := hide (share_bd hT k2 k3)
    have HG := hide (share_get k2 k3)
    have HM := hide (share_mono k2 k3)
    have hp := aw_ne k3
    have hsl := share_len T l
    obtain ⟨b, off, rfl, q0, hcell⟩ := hl.2.2.2.2.resolve_left (by omega)
    generalize share T l = sh at *
    clear hbad k3 k4 hl
    go_enter Tryd.func8, Tryd.ntmps8
    go_wp2_with fail
    refine (lives_any _ HT.out).mono ?_
    rintro e w1 ⟨rfl, h1⟩
    go_wp2_with fail
    refine (SG.out _ h1).mono ?_
    rintro e w2 ⟨g, rfl, hr, hg, h2⟩
    have hgw : w.heap.size ≤ g := Nat.le_trans h1.size hg
    replace h1 := h1.trans (h2.mono h1.size)
    have hr2 := hr.isI HB.out
    have tl : ((len : Int) != (len : Int)) = false := by simp
    have tT : (T != T) = false := by simp
    clear h2 hg
    go_wp2_with fail
    refine (sum_any _ _ _ _ _ hr2).mono ?_
    rw [HS.out]
    rintro e w' ⟨rfl, rfl⟩
    go_wp2_with fail
    have HC : Hid (∀ i, i < len → w'.cell? ⟨b, off + i, none⟩ = some (.int .i64 (l.getD i 0))) := hide (fun i hi => (h1.cell (p := ⟨b, off + i, none⟩) q0).trans (hcell i hi))
    have HR : Hid (∀ i, i < len → w'.cell? ⟨g, i, none⟩ = some (.int .i64 (sh.getD i 0))) := hide (fun i hi => hr.cell hi)
    have HBd : Hid (∀ i, -9223372036854775808 ≤ sh.getD i 0 ∧ sh.getD i 0 ≤ 9223372036854775807) := hide (fun i => getD_bd sh i HB.out)
    clear hr hr2 hcell HB HS SG
    go_loopw [9, 10, 45] (fun _ _ i wr => ∃ k n : Nat, k ≤ len ∧ i = .int .i64 k ∧ wr = w'.drewN n) (fun _ _ i _ => len - (RowKit.intOf i).toNat)
    case atStart => exact ⟨0, 0, by omega, rfl, rfl⟩
    case round =>
      obtain ⟨k, n, hk, rfl, rfl⟩ := hrel
      by_cases hlt : k < len
      · have c1 : (w'.drewN n).cell? ⟨b, off + k, none⟩ = some (.int .i64 (l.getD k 0)) := HC.out k hlt
        have c2 : (w'.drewN n).cell? ⟨g, k, none⟩ = some (.int .i64 (sh.getD k 0)) := HR.out k hlt
        have hg := HG.out k
        generalize l.getD k 0 = x at *
        generalize sh.getD k 0 = y at *
        obtain ⟨y0, hz⟩ := hg
        have d0 : decide (y < 0) = false := by simpa using y0
        by_cases hx : x = 0
        · obtain rfl := hz hx
          subst hx
          clear hz
          go_wp2
          go_roundw
          case rel => exact ⟨k + 1, n, by omega, by go_num, rfl⟩
          case measure => simp [RowKit.intOf]; omega
        · have dx : (x == 0) = false := by simpa using hx
          clear hz hx
          go_wp2
          go_roundw
          case rel => exact ⟨k + 1, n, by omega, by go_num, rfl⟩
          case measure => simp [RowKit.intOf]; omega
      · go_wp2_with fail
        clear hk hlt
        go_loopw [11, 12, 66] (fun _ _ i wr => ∃ k n : Nat, k ≤ len ∧ i = .int .i64 k ∧ wr = w'.drewN n) (fun _ _ i _ => len - (RowKit.intOf i).toNat)
        case atStart => exact ⟨0, n, by omega, rfl, rfl⟩
        case round =>
          obtain ⟨i, n, hi, rfl, rfl⟩ := hrel
          by_cases hlt : i < len
          · go_wp2_with fail
            go_loopw [12, 71] (fun _ i wr => ∃ k n : Nat, k ≤ len ∧ i = .int .i64 k ∧ wr = w'.drewN n) (fun _ i _ => len - (RowKit.intOf i).toNat)
            case atStart => exact ⟨0, n, by omega, rfl, rfl⟩
            case round =>
              obtain ⟨k, n, hk, rfl, rfl⟩ := hrel
              by_cases hlk : k < len
              · have c1 : w'.cell? ⟨b, off + i, none⟩ = some (.int .i64 (l.getD i 0)) := HC.out i hlt
                have c2 : w'.cell? ⟨b, off + k, none⟩ = some (.int .i64 (l.getD k 0)) := HC.out k hlk
                have c3 : w'.cell? ⟨g, i, none⟩ = some (.int .i64 (sh.getD i 0)) := HR.out i hlt
                have c4 : w'.cell? ⟨g, k, none⟩ = some (.int .i64 (sh.getD k 0)) := HR.out k hlk
                have hm := HM.out i k
                have y0 := (HG.out i).1
                have y3 := (HBd.out i).2
                generalize l.getD i 0 = x1 at *
                generalize l.getD k 0 = x2 at *
                generalize sh.getD i 0 = y1 at *
                generalize sh.getD k 0 = y2 at *
                by_cases hx : x1 < x2
                · have hy : ¬ y2 < y1 - 1 := by have := hm hx; omega
                  have d0 : decide (y2 < y1 - 1) = false := by simpa using hy
                  clear hm
                  go_wp2
                  go_quiet (fail)
                  go_wp2
                  go_roundw
                  case rel => exact ⟨k + 1, _, by omega, by go_num, rfl⟩
                  case measure => simp [RowKit.intOf]; omega
                · have d0 : decide (x1 < x2) = false := by simpa using hx
                  clear hm
                  go_wp2
                  go_quiet (fail)
                  go_wp2
                  go_roundw
                  case rel => exact ⟨k + 1, _, by omega, by go_num, rfl⟩
                  case measure => simp [RowKit.intOf]; omega
              · by_cases h40 : i = 40
                · have t40 : ((i : Int) == 40) = true := by simp; omega
                  go_wp2
                  go_ret
                  exact ⟨rfl, below_drewN h1 _⟩
                · have t40 : ((i : Int) == 40) = false := by simp; omega
                  go_wp2
                  go_roundw
                  case rel => exact ⟨i + 1, n, by omega, by go_num, rfl⟩
                  case measure => simp [RowKit.intOf]; omega
          · go_wp2
            go_ret
            exact ⟨rfl, below_drewN h1 _⟩
  · have SB := hide (fun W (h : Below w.heap.size w W) => share_bad T s len cap l W (hl.below h) hlen hbad)
    generalize shErr T l = E at *
    have t0 : (E != 0) = true := by simpa using hbad
    go_enter Tryd.func8, Tryd.ntmps8
    go_wp2_with fail
    refine (lives_any _ HT.out).mono ?_
    rintro e w1 ⟨rfl, h1⟩
    go_wp2_with fail
    refine (SB.out _ h1).mono ?_
    rintro e w' ⟨rfl, rfl⟩
    go_wp2
    go_ret
    exact ⟨rfl, h1⟩
end Go.Proofs.YtjhlilamnbbkbaaDoor
