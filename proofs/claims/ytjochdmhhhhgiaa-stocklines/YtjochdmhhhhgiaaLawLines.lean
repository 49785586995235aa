/- StockLines: the walk -/
import Derived.Test.YtjochdmhhhhgiaaP
import Derived.Test.YtjochdmhhhhgiaaUl
namespace Go.Proofs.Ytjochdmhhhhgiaa
open Go.RowKit
set_option maxRecDepth 40000 in
set_option maxHeartbeats 8000000 in
/-- StockLines -/
theorem law_lines (a : Option Addr) (len cap : Nat) (l : List Cl) (p : Option Addr) (ln lc : Nat) (xs : List Ln) (w : World) (h : IsC w a len cap l) (hbig : len * 48 ≤ 140737488355328) (hx : IsL w p ln lc xs) (hxb : ln * 32 ≤ 140737488355328) : Calls Try.prog 4 #[.slice a len cap, .slice p ln lc] w fun e w' => e = .returned (.bool true) ∧ Below w.heap.size w w' := by
  have HV := hide h
  have HX := hide hx
  have HXN := hide hx.1
  have hxc := hx.2.1
  have hxm : lc ≤ 9223372036854775807 := hx.2.2.1
  have HBIG := hide hbig
  have HXB := hide hxb
  have hq := @equal41
  have hqg := @eqg41
  have HO0 : Hid ((w.alloc (.cells #[] 41)).ownsRow w.heap.size 41 4 (.slice (some ⟨w.heap.size, 0, none⟩) 0 0) 0 []) := hide (World.ownsRow_made w #[] 0 (Nat.le_refl _) (by decide) rfl)
  have HB0 : Hid (Below w.heap.size w (w.alloc (.cells #[] 41))) := hide ((Below.refl _ w).alloc (Nat.le_refl _) _)
  have HI0 := hide (HX.out.below' HB0.out)
  clear h hbig hx hxb
  go_enter Try.func4, Try.ntmps4
  go_wp2_with (at_builtin; refine wpList_lines rfl _ _ rfl w.heap.size (.slice (some ⟨w.heap.size, 0, none⟩) 0 0) rfl HO0.out p ln lc xs rfl HI0.out HXB.out HB0.out.size ?_)
  intro v1 w1 HN
  have HB1 := hide (HB0.out.trans HN.out.2)
  obtain ⟨a9, c9, rfl, hI9⟩ := own_isL HXN.out HN.out.1
  have HI9 := hide hI9
  have h9c := hI9.2.1
  have h9m : c9 ≤ 9223372036854775807 := hI9.2.2.1
  clear HN hI9 HI0 HB0 HO0
  go_wp2
  generalize hV2 : w1.alloc (.cells #[.func (.func 9) #[] #[], .func (.func 10) #[] #[], .func (.func 11) #[] #[], .func (.func 12) #[] #[], .func (.func 13) #[] #[]] 23) = v6
  have HR6 : Hid (Row5 v6 w1.heap.size) := hide (row5_blk (by rw [← hV2]; exact heap_alloc_new _ _))
  have HB6 : Hid (Below w.heap.size w v6) := hide (hV2 ▸ HB1.out.alloc HB1.out.size _)
  have HI6 : Hid (IsL v6 a9 ln c9 xs) := hide (HI9.out.below' (hV2 ▸ (Below.refl _ _).alloc (Nat.le_refl _) _))
  have HS6 : Hid (w1.heap.size < v6.heap.size) := hide (by rw [← hV2]; simp)
  clear hV2 HI9 HB1
  generalize w1.heap.size = gq at *
  go_loopw [22] (fun i wr => ∃ k : Nat, k ≤ 5 ∧ i = .int .i64 k ∧ Hid (Below w.heap.size w wr ∧ Below v6.heap.size v6 wr)) (fun i _ => 5 - (intOf i).toNat)
  case atStart => exact ⟨0, by omega, rfl, hide ⟨HB6.out, Below.refl _ _⟩⟩
  case round =>
    obtain ⟨k, hk, rfl, HW⟩ := hrel
    by_cases hlt : k < 5
    case pos =>
      have zf := (HR6.out.below HS6.out HW.out.2) k hlt
      have HC := hide (lines_any k hlt a len cap l a9 ln c9 xs wr (HV.out.below' HW.out.1) HBIG.out (HI6.out.below' HW.out.2))
      have HD := hide (fun W (hW : IsC W a len cap l) (hX : IsL W p ln lc xs) => rlines_any rcheck_any k hlt a len cap l p ln lc xs W hW HBIG.out hX)
      have hk0 : (0 : Int) ≤ (k : Int) := by omega
      have hk5 : (k : Int) < 5 := by omega
      generalize linesR k l xs = R at *
      obtain ⟨R1, R2⟩ := R
      dsimp only at HC HD
      obtain ⟨Rn, hRn⟩ : ∃ q, R1.length = q := ⟨_, rfl⟩
      rw [hRn] at HC HD
      clear hRn
      generalize hfk : 9 + k = fk at *
      clear hfk
      go_wp2_with fail
      refine HC.out.mono ?_
      rintro e v7 ⟨a7, c7, rfl, hI7, hb7⟩
      have HB7 : Hid (Below w.heap.size w v7 ∧ Below v6.heap.size v6 v7) := hide ⟨HW.out.1.trans (hb7.mono HW.out.1.size), HW.out.2.trans (hb7.mono HW.out.2.size)⟩
      have HI7 := hide hI7
      clear hI7 hb7 HC HW zf
      go_wp2_with fail
      refine (HD.out v7 (HV.out.below' HB7.out.1) (HX.out.below' HB7.out.1)).mono ?_
      rintro e v8 ⟨a8, c8, rfl, hI8, hb8⟩
      have HB8 : Hid (Below w.heap.size w v8 ∧ Below v6.heap.size v6 v8) := hide ⟨HB7.out.1.trans (hb8.mono HB7.out.1.size), HB7.out.2.trans (hb8.mono HB7.out.2.size)⟩
      have C9 := hide (same_any a7 Rn c7 R1 a8 Rn c8 R1 v8 (HI7.out.below' hb8) hI8)
      clear hI8 hb8 HD HB7 HI7
      go_wp2_with fail
      refine C9.out.mono ?_
      rintro e v9 ⟨⟨r, rfl, hr⟩, hb9⟩
      obtain rfl : r = true := by simpa using hr
      have HB9 : Hid (Below w.heap.size w v9 ∧ Below v6.heap.size v6 v9) := hide ⟨HB8.out.1.trans (hb9.mono HB8.out.1.size), HB8.out.2.trans (hb9.mono HB8.out.2.size)⟩
      clear hr hb9 C9 HB8
      go_wp2
      go_roundw
      case rel => exact ⟨k + 1, by omega, by simp, HB9⟩
      case measure => simp [intOf]; omega
    case neg =>
      obtain rfl : k = 5 := by omega
      go_wp2
      go_loopw [53] (fun i wq => ∃ j : Nat, j ≤ ln ∧ i = .int .i64 j ∧ Hid (Below w.heap.size w wq ∧ Below v6.heap.size v6 wq)) (fun i _ => ln - (intOf i).toNat)
      case atStart => exact ⟨0, by omega, rfl, HW⟩
      case round =>
        obtain ⟨j, hj, rfl, HQ⟩ := hrel
        by_cases hjl : j < ln
        case pos =>
          obtain ⟨b, off, rfl, hbs, z0⟩ := (HI6.out.below' HQ.out.2).2.2.2.1 j hjl
          obtain ⟨b', off', rfl, hbs', y0⟩ := (HX.out.below' HQ.out.1).2.2.2.1 j hjl
          generalize xs.getD j Ln0 = x at *
          obtain ⟨x1, x2, x3, x4⟩ := x
          have HS : Hid ((wr.drew.cell? ⟨b, off + j * 4, none⟩ = some (.int .i64 x1) ∧ wr.drew.cell? ⟨b, off + j * 4 + 1, none⟩ = some (.int .i64 x2) ∧ wr.drew.cell? ⟨b, off + j * 4 + 2, none⟩ = some (.int .i64 x3) ∧ wr.drew.cell? ⟨b, off + j * 4 + 3, none⟩ = some (.int .i64 x4) ∧ wr.drew.cell? ⟨b', off' + j * 4, none⟩ = some (.int .i64 x1) ∧ wr.drew.cell? ⟨b', off' + j * 4 + 1, none⟩ = some (.int .i64 x2) ∧ wr.drew.cell? ⟨b', off' + j * 4 + 2, none⟩ = some (.int .i64 x3) ∧ wr.drew.cell? ⟨b', off' + j * 4 + 3, none⟩ = some (.int .i64 x4))) := hide (by
            obtain ⟨e1, e2, e3, e4⟩ := z0
            obtain ⟨d1, d2, d3, d4⟩ := y0
            exact ⟨e1, e2, e3, e4, d1, d2, d3, d4⟩)
          have HQD : Hid (Below w.heap.size w wr.drew ∧ Below v6.heap.size v6 wr.drew) := hide ⟨HQ.out.1.drew, HQ.out.2.drew⟩
          clear z0 y0
          have hkc : (j : Int) < ln := by omega
          have hk0 : (0 : Int) ≤ (j : Int) := by omega
          go_wp2_with fail
          go_region_held (fun W : World => (W.cell? ⟨b, off + j * 4, none⟩ = some (.int .i64 x1) ∧ W.cell? ⟨b, off + j * 4 + 1, none⟩ = some (.int .i64 x2) ∧ W.cell? ⟨b, off + j * 4 + 2, none⟩ = some (.int .i64 x3) ∧ W.cell? ⟨b, off + j * 4 + 3, none⟩ = some (.int .i64 x4) ∧ W.cell? ⟨b', off' + j * 4, none⟩ = some (.int .i64 x1) ∧ W.cell? ⟨b', off' + j * 4 + 1, none⟩ = some (.int .i64 x2) ∧ W.cell? ⟨b', off' + j * 4 + 2, none⟩ = some (.int .i64 x3) ∧ W.cell? ⟨b', off' + j * 4 + 3, none⟩ = some (.int .i64 x4))) (exact HS.out) (fail)
          go_wp2
          go_roundw
          case rel => exact ⟨j + 1, by omega, by simp, HQD⟩
          case measure => simp [intOf]; omega
        case neg =>
          obtain rfl : j = ln := by omega
          go_wp2_with fail
          refine (lines_nil a len cap p j lc _).mono ?_
          rintro e u1 ⟨rfl, hb1⟩
          have HU1 := hide (HQ.out.1.trans (hb1.mono HQ.out.1.size))
          clear hb1
          go_wp2_with fail
          refine (lives_any u1).mono ?_
          rintro e u2 ⟨rfl, hb2⟩
          have HU2 := hide (HU1.out.trans (hb2.mono HU1.out.size))
          clear hb2
          go_wp2
          go_ret
          exact ⟨rfl, HU2.out⟩
end Go.Proofs.Ytjochdmhhhhgiaa
namespace Go.Proofs.Ytjochdmhhhhgiaa.stockLines
open Go.RowKit
theorem lawWalk (a0 : Option Addr) (len0 cap0 : Nat) (l0 : List Cl) (a1 : Option Addr) (len1 cap1 : Nat) (l1 : List Ln) (W : World) (w0 : IsC W a0 len0 cap0 l0) (h0 : len0 * 48 ≤ 140737488355328) (w1 : IsL W a1 len1 cap1 l1) (h1 : len1 * 32 ≤ 140737488355328) :
    Calls Try.prog 4 #[.slice a0 len0 cap0, .slice a1 len1 cap1] W fun e W' => e = .returned (.bool true) ∧ Below W.heap.size W W' :=
  law_lines a0 len0 cap0 l0 a1 len1 cap1 l1 W w0 h0 w1 h1
end Go.Proofs.Ytjochdmhhhhgiaa.stockLines
