/- StockParts: the walk -/
import Derived.Test.YtjochdmhhhhgiaaU
import Derived.Test.YtjochdmhhhhgiaaOl
namespace Go.Proofs.Ytjochdmhhhhgiaa
open Go.RowKit
theorem lines10 (a : Option Addr) (len cap : Nat) (l : List Cl) (b : Option Addr) (ln lc : Nat) (xs : List Ln) (w : World) (h : IsC w a len cap l) (hbig : len * 48 ≤ 140737488355328) (hx : IsL w b ln lc xs) : Calls Try.prog 21 #[.slice a len cap, .slice b ln lc, .func (.func 10) #[] #[]] w fun e w' => ∃ a' c', e = .returned (.tuple #[.slice a' (linesR 1 l xs).1.length c', .int .i64 (linesR 1 l xs).2]) ∧ IsC w' a' (linesR 1 l xs).1.length c' (linesR 1 l xs).1 ∧ Below w.heap.size w w' :=
  lines_any 1 (by decide) a len cap l b ln lc xs w h hbig hx
set_option maxRecDepth 40000 in
set_option maxHeartbeats 4000000 in
/-- StockParts -/
theorem law_parts (a : Option Addr) (len cap : Nat) (l : List Cl) (b : Option Addr) (ln lc : Nat) (xs : List Ln) (t : Int) (w : World) (h : IsC w a len cap l) (hbig : len * 48 ≤ 140737488355328) (hx : IsL w b ln lc xs) : Calls Try.prog 7 #[.slice a len cap, .slice b ln lc, .int .i64 t] w fun e w' => e = .returned (.bool true) ∧ Below w.heap.size w w' := by
  have HV := hide h
  have HX := hide hx
  have HBIG := hide hbig
  have hxc := hx.2.1
  have hxm : lc ≤ 9223372036854775807 := hx.2.2.1
  have HLL := hide h.1
  clear h hx hbig
  by_cases ht : 0 ≤ t ∧ t ≤ ln
  case neg =>
    by_cases h1 : t < 0
    · go_enter Try.func7, Try.ntmps7
      go_wp2_with fail
      refine (lives_any w).mono ?_
      rintro e w1 ⟨rfl, hb1⟩
      have HB1 := hide hb1
      clear hb1
      go_wp2
      go_ret
      exact ⟨rfl, HB1.out⟩
    · have h2 : (ln : Int) < t := by omega
      clear ht
      go_enter Try.func7, Try.ntmps7
      go_wp2_with fail
      refine (lives_any w).mono ?_
      rintro e w1 ⟨rfl, hb1⟩
      have HB1 := hide hb1
      clear hb1
      go_wp2
      go_ret
      exact ⟨rfl, HB1.out⟩
  case pos =>
    obtain ⟨m, rfl⟩ : ∃ m : Nat, t = m := ⟨t.toNat, by omega⟩
    have hm : m ≤ ln := by omega
    have hmI : ¬ (ln : Int) < (m : Int) := by omega
    have hm0 : ¬ (m : Int) < 0 := by omega
    have hmC : (m : Int) ≤ (lc : Int) := by omega
    have hmL : (m : Int) ≤ (ln : Int) := by omega
    have hlC : (ln : Int) ≤ (lc : Int) := by omega
    clear ht
    have HAP : Hid (linesR 1 l xs = if (linesR 1 l (xs.take m)).2 = 0 then linesR 1 (linesR 1 l (xs.take m)).1 (xs.drop m) else ([], (linesR 1 l (xs.take m)).2)) := hide (by
      conv => lhs; rw [← List.take_append_drop m xs]
      rw [linesR_append])
    have HBL : Hid ((linesR 1 l (xs.take m)).1.length * 48 ≤ 140737488355328) := hide (linesR_len 1 _ l (by rw [HLL.out]; exact HBIG.out))
    have C1 := hide (fun W (hW : IsC W a len cap l) (hX : IsL W b ln lc xs) => lines10 a len cap l b ln lc xs W hW HBIG.out hX)
    have C2 := hide (fun W (hW : IsC W a len cap l) (hX : IsL W b m lc (xs.take m)) => lines10 a len cap l b m lc (xs.take m) W hW HBIG.out hX)
    have C3 := hide (fun a2 c2 b2 n2 lc2 W (hW : IsC W a2 (linesR 1 l (xs.take m)).1.length c2 (linesR 1 l (xs.take m)).1) (hX : IsL W b2 n2 lc2 (xs.drop m)) => lines10 a2 (linesR 1 l (xs.take m)).1.length c2 (linesR 1 l (xs.take m)).1 b2 n2 lc2 (xs.drop m) W hW HBL.out hX)
    generalize linesR 1 l (xs.take m) = B at *
    obtain ⟨B1, B2⟩ := B
    dsimp only at HAP C2 C3
    obtain ⟨A, hA⟩ : ∃ A, linesR 1 l xs = A := ⟨_, rfl⟩
    rw [hA] at HAP C1
    clear hA
    obtain ⟨A1, A2⟩ := A
    dsimp only at C1
    obtain ⟨An, hAn⟩ : ∃ q, A1.length = q := ⟨_, rfl⟩
    obtain ⟨Bn, hBn⟩ : ∃ q, B1.length = q := ⟨_, rfl⟩
    rw [hAn] at C1
    rw [hBn] at C2 C3
    have HAN := hide hAn
    clear hAn hBn
    go_enter Try.func7, Try.ntmps7
    go_wp2_with fail
    refine (lives_any w).mono ?_
    rintro e w1 ⟨rfl, hb1⟩
    have HB1 := hide hb1
    clear hb1
    go_wp2_with fail
    refine (C1.out w1 (HV.out.below' HB1.out) (HX.out.below' HB1.out)).mono ?_
    rintro e w2 ⟨a2, c2, rfl, hI2, hb2⟩
    have HI2 := hide hI2
    have HB2 := hide (HB1.out.trans (hb2.mono HB1.out.size))
    clear hI2 hb2 C1 HB1
    go_wp2_with fail
    refine (C2.out w2 (HV.out.below' HB2.out) (isL_take (HX.out.below' HB2.out) hm)).mono ?_
    rintro e w3 ⟨a3, c3, rfl, hI3, hb3⟩
    have HI3 := hide hI3
    have HB3 := hide (HB2.out.trans (hb3.mono HB2.out.size))
    have HI23 := hide (HI2.out.below' hb3)
    clear hI3 hb3 C2 HB2 HI2
    by_cases hB : B2 = 0
    case neg =>
      rw [if_neg hB] at HAP
      have hA1 := (Prod.mk.injEq .. ▸ HAP.out : A1 = [] ∧ A2 = B2)
      have hAnz : An = 0 := by rw [← HAN.out, hA1.1]; rfl
      have hA2 := hA1.2
      subst hAnz hA2
      have hd : decide (A2 = 0) = false := decide_eq_false hB
      have hd2 : (A2 == 0) = false := by simpa using hB
      clear hA1 HAP C3
      go_wp2
      go_ret
      exact ⟨rfl, HB3.out⟩
    case pos =>
      subst hB
      rw [if_pos rfl] at HAP
      rw [← HAP.out] at C3
      dsimp only at C3
      rw [HAN.out] at C3
      clear HAP
      cases b with
      | none =>
        obtain rfl := HX.out.2.2.2.2 rfl
        obtain rfl : ln = 0 := by omega
        obtain rfl : m = 0 := by omega
        have hxs := List.length_eq_zero_iff.1 HX.out.1
        subst hxs
        have C4 := hide (C3.out a3 c3 none 0 0 w3 HI3.out (HX.out.below' HB3.out))
        clear C3
        go_wp2_with fail
        refine C4.out.mono ?_
        rintro e w4 ⟨a4, c4, rfl, hI4, hb4⟩
        have HB4 := hide (HB3.out.trans (hb4.mono HB3.out.size))
        have C5 := hide (same_any a2 An c2 A1 a4 An c4 A1 w4 (HI23.out.below' hb4) hI4)
        clear hI4 hb4 C4
        go_wp2_with fail
        refine C5.out.mono ?_
        rintro e w5 ⟨⟨r, rfl, hr⟩, hb5⟩
        obtain rfl : r = true := by simpa using hr
        have HB5 := hide (HB4.out.trans (hb5.mono HB4.out.size))
        clear hr hb5 C5
        go_wp2
        go_ret
        exact ⟨rfl, HB5.out⟩
      | some ad =>
        by_cases hmc : m = lc
        · have hml : ln = m := by omega
          subst hmc hml
          have C4 := hide (C3.out a3 c3 (some ad) 0 0 w3 HI3.out (isL_none (HX.out.below' HB3.out) (Nat.le_refl _)))
          clear C3
          go_wp2_with fail
          refine C4.out.mono ?_
          rintro e w4 ⟨a4, c4, rfl, hI4, hb4⟩
          have HB4 := hide (HB3.out.trans (hb4.mono HB3.out.size))
          have C5 := hide (same_any a2 An c2 A1 a4 An c4 A1 w4 (HI23.out.below' hb4) hI4)
          clear hI4 hb4 C4
          go_wp2_with fail
          refine C5.out.mono ?_
          rintro e w5 ⟨⟨r, rfl, hr⟩, hb5⟩
          obtain rfl : r = true := by simpa using hr
          have HB5 := hide (HB4.out.trans (hb5.mono HB4.out.size))
          clear hr hb5 C5
          go_wp2
          go_ret
          exact ⟨rfl, HB5.out⟩
        · have C4 := hide (C3.out a3 c3 (some (ad.add (m * 4))) (ln - m) (lc - m) w3 HI3.out (isL_drop (HX.out.below' HB3.out) hm))
          have hmcI : ¬ (m : Int) = (lc : Int) := by omega
          clear C3
          go_wp2_with fail
          refine C4.out.mono ?_
          rintro e w4 ⟨a4, c4, rfl, hI4, hb4⟩
          have HB4 := hide (HB3.out.trans (hb4.mono HB3.out.size))
          have C5 := hide (same_any a2 An c2 A1 a4 An c4 A1 w4 (HI23.out.below' hb4) hI4)
          clear hI4 hb4 C4
          go_wp2_with fail
          refine C5.out.mono ?_
          rintro e w5 ⟨⟨r, rfl, hr⟩, hb5⟩
          obtain rfl : r = true := by simpa using hr
          have HB5 := hide (HB4.out.trans (hb5.mono HB4.out.size))
          clear hr hb5 C5
          go_wp2
          go_ret
          exact ⟨rfl, HB5.out⟩
end Go.Proofs.Ytjochdmhhhhgiaa
namespace Go.Proofs.Ytjochdmhhhhgiaa.stockParts
open Go.RowKit
theorem lawWalk (a0 : Option Addr) (len0 cap0 : Nat) (l0 : List Cl) (a1 : Option Addr) (len1 cap1 : Nat) (l1 : List Ln) (n2 : Int) (W : World) (w0 : IsC W a0 len0 cap0 l0) (h0 : len0 * 48 ≤ 140737488355328) (w1 : IsL W a1 len1 cap1 l1) (_ : len1 * 32 ≤ 140737488355328) (_ : (Lit.int .i64 n2).wf = true) :
    Calls Try.prog 7 #[.slice a0 len0 cap0, .slice a1 len1 cap1, .int .i64 n2] W fun e W' => e = .returned (.bool true) ∧ Below W.heap.size W W' :=
  law_parts a0 len0 cap0 l0 a1 len1 cap1 l1 n2 W w0 h0 w1
end Go.Proofs.Ytjochdmhhhhgiaa.stockParts
