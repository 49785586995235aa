/- StockMoves: the walk -/
import Derived.Test.YtjochdmhhhhgiaaLawWhole
import Derived.Test.YtjochdmhhhhgiaaP
import Derived.Test.YtjochdmhhhhgiaaS
namespace Go.Proofs.Ytjochdmhhhhgiaa
open Go.RowKit
set_option maxRecDepth 40000 in
set_option maxHeartbeats 8000000 in
/-- StockMoves -/
theorem law_moves (a : Option Addr) (len cap : Nat) (l : List Cl) (it wa n : Int) (w : World) (h : IsC w a len cap l) (hbig : len * 48 ≤ 140737488355328) : Calls Try.prog 3 #[.slice a len cap, .int .i64 it, .int .i64 wa, .int .i64 n] w fun e w' => e = .returned (.bool true) ∧ Below w.heap.size w w' := by
  have HV := hide h
  have HBIG : Hid ((0 + len) * 48 ≤ 140737488355328) := hide (by omega)
  have HOKL := hide h.2.2.2.1
  have HLN := hide h.1
  have hq := @equal31
  have hqg := @eqg31
  have HO0 : Hid ((w.alloc (.cells #[] 31)).ownsRow w.heap.size 31 6 (.slice (some ⟨w.heap.size, 0, none⟩) 0 0) 0 (([] : List Cl).flatMap clc)) := hide (World.ownsRow_made w #[] 0 (Nat.le_refl _) (by decide) rfl)
  have HB0 : Hid (Below w.heap.size w (w.alloc (.cells #[] 31))) := hide ((Below.refl _ w).alloc (Nat.le_refl _) _)
  have HI0 := hide (HV.out.below' HB0.out)
  have HCKR := hide rcheck_any
  clear h hbig
  go_enter Try.func3, Try.ntmps3
  go_wp2_with (at_builtin; refine wpList_cells rfl _ _ rfl w.heap.size (.slice (some ⟨w.heap.size, 0, none⟩) 0 0) 0 [] rfl HO0.out a len cap l rfl HI0.out HBIG.out HB0.out.size ?_)
  intro v1 w1 HN
  have hN := HN.out
  have HB1 := hide (HB0.out.trans hN.2)
  obtain ⟨a9, c9, rfl, hI9, _⟩ := own_isC HLN.out HOKL.out hN.1
  have HI9 := hide hI9
  clear HN hN hI9 HI0 HB0 HO0
  go_wp2
  generalize hV2 : w1.alloc (.cells #[.func (.func 9) #[] #[], .func (.func 10) #[] #[], .func (.func 11) #[] #[], .func (.func 12) #[] #[], .func (.func 13) #[] #[]] 23) = v6
  have HR6 : Hid (Row5 v6 w1.heap.size) := hide (row5_blk (by rw [← hV2]; exact heap_alloc_new _ _))
  have HB6 : Hid (Below w.heap.size w v6) := hide (hV2 ▸ HB1.out.alloc HB1.out.size _)
  have HI6 : Hid (IsC v6 a9 len c9 l) := hide (HI9.out.below' (hV2 ▸ (Below.refl _ _).alloc (Nat.le_refl _) _))
  have HS6 : Hid (w1.heap.size < v6.heap.size) := hide (by rw [← hV2]; simp)
  clear hV2 HI9 HB1
  generalize w1.heap.size = gq at *
  go_loopw [27] (fun i wr => ∃ k : Nat, k ≤ 5 ∧ i = .int .i64 k ∧ Hid (Below w.heap.size w wr ∧ Below v6.heap.size v6 wr)) (fun i _ => 5 - (intOf i).toNat)
  case atStart => exact ⟨0, by omega, rfl, hide ⟨HB6.out, Below.refl _ _⟩⟩
  case round =>
    obtain ⟨k, hk, rfl, HW⟩ := hrel
    by_cases hlt : k < 5
    case pos =>
      have zf := (HR6.out.below HS6.out HW.out.2) k hlt
      obtain ⟨hent, hcall⟩ := mv_all k hlt
      have HC := hide (hcall a9 len c9 l it wa n wr (HI6.out.below' HW.out.2))
      have HD := hide (fun W (hW : IsC W a len cap l) => rmove_any HCKR.out k hlt a len cap l it wa n W hW)
      clear hcall
      have hk0 : (0 : Int) ≤ (k : Int) := by omega
      have hk5 : (k : Int) < 5 := by omega
      generalize moveR k l it wa n = R at *
      obtain ⟨R1, R2⟩ := R
      dsimp only at HC HD
      obtain ⟨Rn, hRn⟩ : ∃ q, R1.length = q := ⟨_, rfl⟩
      rw [hRn] at HC HD
      clear hRn
      generalize hfk : 9 + k = fk at *
      clear hfk
      go_wp2_with fail
      refine HC.out.mono ?_
      rintro e v7 ⟨a7, c7, rfl, hI7, hb7⟩
      have HB7 : Hid (Below w.heap.size w v7 ∧ Below v6.heap.size v6 v7) := hide ⟨HW.out.1.trans (hb7.mono HW.out.1.size), HW.out.2.trans (hb7.mono HW.out.2.size)⟩
      have HI7 := hide hI7
      clear hI7 hb7 HC HW zf hent
      go_wp2_with fail
      refine (HD.out v7 (HV.out.below' HB7.out.1)).mono ?_
      rintro e v8 ⟨a8, c8, rfl, hI8, hb8⟩
      have HB8 : Hid (Below w.heap.size w v8 ∧ Below v6.heap.size v6 v8) := hide ⟨HB7.out.1.trans (hb8.mono HB7.out.1.size), HB7.out.2.trans (hb8.mono HB7.out.2.size)⟩
      have C9 := hide (same_any a7 Rn c7 R1 a8 Rn c8 R1 v8 (HI7.out.below' hb8) hI8)
      clear hI8 hb8 HD HB7 HI7
      go_wp2_with fail
      refine C9.out.mono ?_
      rintro e v9 ⟨⟨r, rfl, hr⟩, hb9⟩
      obtain rfl : r = true := by simpa using hr
      have HB9 : Hid (Below w.heap.size w v9 ∧ Below v6.heap.size v6 v9) := hide ⟨HB8.out.1.trans (hb9.mono HB8.out.1.size), HB8.out.2.trans (hb9.mono HB8.out.2.size)⟩
      clear hr hb9 C9 HB8
      go_wp2
      go_roundw
      case rel => exact ⟨k + 1, by omega, by simp, HB9⟩
      case measure => simp [intOf]; omega
    case neg =>
      obtain rfl : k = 5 := by omega
      have C1 := hide (cell_any a9 len c9 l it wa wr (HI6.out.below' HW.out.2))
      have C2 := hide (fun W (hW : IsC W a len cap l) => rcell_any HCKR.out a len cap l it wa W hW)
      generalize cellR l it wa = CR at *
      obtain ⟨⟨x1, x2, x3, x4, x5, x6⟩, xe⟩ := CR
      dsimp only at C1 C2
      go_wp2_with fail
      refine C1.out.mono ?_
      rintro e u1 ⟨rfl, hb1⟩
      have HU1 : Hid (Below w.heap.size w u1 ∧ Below v6.heap.size v6 u1) := hide ⟨HW.out.1.trans (hb1.mono HW.out.1.size), HW.out.2.trans (hb1.mono HW.out.2.size)⟩
      clear hb1 C1 HW
      go_wp2_with fail
      generalize hU2 : u1.alloc (.cells #[.int .i64 x1, .int .i64 x2, .int .i64 x3, .int .i64 x4, .int .i64 x5, .int .i64 x6] 31) = u2
      have HX2 : Hid (Blk u2 u1.heap.size ⟨x1, x2, x3, x4, x5, x6⟩) := hide (hU2 ▸ heap_alloc_new _ _)
      have HU2 : Hid (Below w.heap.size w u2 ∧ Below v6.heap.size v6 u2) := hide (hU2 ▸ ⟨HU1.out.1.alloc HU1.out.1.size _, HU1.out.2.alloc HU1.out.2.size _⟩)
      clear hU2 HU1
      generalize u1.heap.size = g1 at *
      refine (C2.out u2 (HV.out.below' HU2.out.1)).mono ?_
      rintro e u3 ⟨rfl, hb3⟩
      have HU3 : Hid (Below w.heap.size w u3 ∧ Below v6.heap.size v6 u3) := hide ⟨HU2.out.1.trans (hb3.mono HU2.out.1.size), HU2.out.2.trans (hb3.mono HU2.out.2.size)⟩
      have HX3 := hide (HX2.out.below (heap_lt HX2.out) hb3)
      clear hb3 C2 HU2 HX2
      go_wp2_with fail
      generalize hU4 : u3.alloc (.cells #[.int .i64 x1, .int .i64 x2, .int .i64 x3, .int .i64 x4, .int .i64 x5, .int .i64 x6] 31) = u4
      have HY4 : Hid (Blk u4 u3.heap.size ⟨x1, x2, x3, x4, x5, x6⟩) := hide (hU4 ▸ heap_alloc_new _ _)
      have HX4 : Hid (Blk u4 g1 ⟨x1, x2, x3, x4, x5, x6⟩) := hide (hU4 ▸ (Below.heap_alloc _ _ _ (heap_lt HX3.out)).trans HX3.out)
      have HU4 : Hid (Below w.heap.size w u4 ∧ Below v6.heap.size v6 u4) := hide (hU4 ▸ ⟨HU3.out.1.alloc HU3.out.1.size _, HU3.out.2.alloc HU3.out.2.size _⟩)
      clear hU4 HU3 HX3
      generalize u3.heap.size = g2 at *
      refine (lives_any u4).mono ?_
      rintro e u5 ⟨rfl, hb5⟩
      have HU5 : Hid (Below w.heap.size w u5 ∧ Below v6.heap.size v6 u5) := hide ⟨HU4.out.1.trans (hb5.mono HU4.out.1.size), HU4.out.2.trans (hb5.mono HU4.out.2.size)⟩
      have HX5 := hide (HX4.out.below (heap_lt HX4.out) hb5)
      have HY5 := hide (HY4.out.below (heap_lt HY4.out) hb5)
      clear hb5 HU4 HX4 HY4
      obtain ⟨c1, c2, c3, c4, c5, c6⟩ := HX5.out.cells
      obtain ⟨d1, d2, d3, d4, d5, d6⟩ := HY5.out.cells
      simp only [Nat.zero_add] at c1 c2 c3 c4 c5 c6 d1 d2 d3 d4 d5 d6
      have hsm : sameC ⟨x1, x2, x3, x4, x5, x6⟩ ⟨x1, x2, x3, x4, x5, x6⟩ = true := (sameC_iff _ _).2 rfl
      have C6 := hide (check_any a9 len c9 l u5 (HI6.out.below' HU5.out.2))
      have C7 := hide (fun W (hW : IsC W a len cap l) => HCKR.out a len cap l W hW)
      generalize checkE l = ce at *
      go_wp2_with fail
      refine C6.out.mono ?_
      rintro e u6 ⟨rfl, hb6⟩
      have HU6 : Hid (Below w.heap.size w u6 ∧ Below v6.heap.size v6 u6) := hide ⟨HU5.out.1.trans (hb6.mono HU5.out.1.size), HU5.out.2.trans (hb6.mono HU5.out.2.size)⟩
      clear hb6 C6 HU5 c1 c2 c3 c4 c5 c6 d1 d2 d3 d4 d5 d6
      go_wp2_with fail
      refine (C7.out u6 (HV.out.below' HU6.out.1)).mono ?_
      rintro e u7 ⟨rfl, hb7⟩
      have HU7 : Hid (Below w.heap.size w u7 ∧ Below v6.heap.size v6 u7) := hide ⟨HU6.out.1.trans (hb7.mono HU6.out.1.size), HU6.out.2.trans (hb7.mono HU6.out.2.size)⟩
      clear hb7 C7 HU6
      have C8 := hide (same_any a9 len c9 l a len cap l u7 (HI6.out.below' HU7.out.2) (HV.out.below' HU7.out.1))
      go_wp2_with fail
      refine C8.out.mono ?_
      rintro e u8 ⟨⟨r, rfl, hr⟩, hb8⟩
      obtain rfl : r = true := by simpa using hr
      have HU8 := hide (HU7.out.1.trans (hb8.mono HU7.out.1.size))
      clear hr hb8 C8
      go_wp2
      go_ret
      exact ⟨rfl, HU8.out⟩
end Go.Proofs.Ytjochdmhhhhgiaa
namespace Go.Proofs.Ytjochdmhhhhgiaa.stockMoves
open Go.RowKit
theorem lawWalk (a0 : Option Addr) (len0 cap0 : Nat) (l0 : List Cl) (n1 n2 n3 : Int) (W : World) (w0 : IsC W a0 len0 cap0 l0) (h0 : len0 * 48 ≤ 140737488355328) (_ : (Lit.int .i64 n1).wf = true) (_ : (Lit.int .i64 n2).wf = true) (_ : (Lit.int .i64 n3).wf = true) :
    Calls Try.prog 3 #[.slice a0 len0 cap0, .int .i64 n1, .int .i64 n2, .int .i64 n3] W fun e W' => e = .returned (.bool true) ∧ Below W.heap.size W W' :=
  law_moves a0 len0 cap0 l0 n1 n2 n3 W w0 h0
end Go.Proofs.Ytjochdmhhhhgiaa.stockMoves
