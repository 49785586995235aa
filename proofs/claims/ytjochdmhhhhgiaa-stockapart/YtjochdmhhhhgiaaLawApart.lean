/- StockApart: the walk -/
import Derived.Test.YtjochdmhhhhgiaaN
import Derived.Test.YtjochdmhhhhgiaaK
namespace Go.Proofs.Ytjochdmhhhhgiaa
open Go.RowKit
set_option maxHeartbeats 2000000 in
/-- StockApart -/
theorem law_apart (a : Option Addr) (len cap : Nat) (l : List Cl) (it wa n i2 w2 m : Int) (w : World) (h : IsC w a len cap l) : Calls Try.prog 8 #[.slice a len cap, .int .i64 it, .int .i64 wa, .int .i64 n, .int .i64 i2, .int .i64 w2, .int .i64 m] w fun e w' => e = .returned (.bool true) ∧ Below w.heap.size w w' := by
  have HV := hide h
  clear h
  by_cases hne : it = i2 ∧ wa = w2
  · obtain ⟨rfl, rfl⟩ := hne
    go_enter Try.func8, Try.ntmps8
    go_wp2_with fail
    refine (lives_any w).mono ?_
    rintro e w1 ⟨rfl, hb1⟩
    have HB1 := hide hb1
    clear hb1
    go_wp2
    go_ret
    exact ⟨rfl, HB1.out⟩
  have HNE := hide hne
  have hE1 : it = i2 → (wa == w2) = false := fun e => by simpa using fun e' => hne ⟨e, e'⟩
  go_enter Try.func8, Try.ntmps8
  go_wp2_with fail
  refine (lives_any w).mono ?_
  rintro e w1 ⟨rfl, hb1⟩
  have HB1 := hide hb1
  have C2 := hide (restock_any a len cap l it wa n w1 (HV.out.below' hb1))
  clear hb1
  obtain ⟨An, hAn⟩ : ∃ m, (moveR 0 l it wa n).1.length = m := ⟨_, rfl⟩
  obtain ⟨Bn, hBn⟩ : ∃ q, (moveR 1 l i2 w2 m).1.length = q := ⟨_, rfl⟩
  rw [hAn] at C2
  have HE : Hid ((¬ ((moveR 0 l it wa n).2 = 0 ∧ (moveR 1 l i2 w2 m).2 = 0)) ∨ ((moveR 0 l it wa n).2 = 0 ∧ (moveR 1 l i2 w2 m).2 = 0 ∧ ((moveR 1 (moveR 0 l it wa n).1 i2 w2 m).2 = 0 ∧ (moveR 0 (moveR 1 l i2 w2 m).1 it wa n).2 = 0 ∧ (moveR 1 (moveR 0 l it wa n).1 i2 w2 m).1 = (moveR 0 (moveR 1 l i2 w2 m).1 it wa n).1))) := hide (by
    rcases moveR_cases 0 l it wa n with h1 | h1
    · exact .inl (fun e => h1.1 e.1)
    · rcases moveR_cases 1 l i2 w2 m with h2 | h2
      · exact .inl (fun e => h2.1 e.2)
      · exact .inr ⟨by rw [moveR_goes h1], by rw [moveR_goes h2], apart01 HNE.out h1 h2⟩)
  have C3f := hide (fun W (hW : IsC W a len cap l) => reserve_any a len cap l i2 w2 m W hW)
  rw [hBn] at C3f
  have C4f := hide (fun a' c' W (hW : IsC W a' An c' (moveR 0 l it wa n).1) => reserve_any a' An c' (moveR 0 l it wa n).1 i2 w2 m W hW)
  have C5f := hide (fun a' c' W (hW : IsC W a' Bn c' (moveR 1 l i2 w2 m).1) => restock_any a' Bn c' (moveR 1 l i2 w2 m).1 it wa n W hW)
  clear hAn hBn
  generalize moveR 0 l it wa n = A at *
  generalize moveR 1 l i2 w2 m = B at *
  generalize moveR 1 A.1 i2 w2 m = C at *
  generalize moveR 0 B.1 it wa n = D at *
  obtain ⟨A1, A2⟩ := A
  obtain ⟨B1, B2⟩ := B
  obtain ⟨C1, C2e⟩ := C
  obtain ⟨D1, D2⟩ := D
  dsimp only at *
  have hq : (it == i2 && wa == w2) = false := by
    rw [Bool.and_eq_false_iff]
    by_cases e : it = i2
    · exact .inr (hE1 e)
    · exact .inl (by simpa using e)
  by_cases e0 : it = i2
  · have e1 : ¬ wa = w2 := fun e => hne ⟨e0, e⟩
    subst e0
    clear hE1 hq hne
    go_wp2_with fail
    refine C2.out.mono ?_
    rintro e w2' ⟨a2, c2, rfl, hI2, hb2⟩
    have HI2 := hide hI2
    have HB2 := hide (HB1.out.trans (hb2.mono HB1.out.size))
    have C3 := hide (C3f.out w2' (HV.out.below' HB2.out))
    clear hI2 hb2 C2 C3f HB1
    go_wp2_with fail
    refine C3.out.mono ?_
    rintro e w3 ⟨a3, c3, rfl, hI3, hb3⟩
    have HI3 := hide hI3
    have HI23 := hide (HI2.out.below' hb3)
    have HB3 := hide (HB2.out.trans (hb3.mono HB2.out.size))
    clear hI3 hb3 C3 HB2 HI2
    rcases HE.out with hno | ⟨rfl, rfl, rfl, rfl, rfl⟩
    · by_cases hA0 : A2 = 0
      · have hB0 : ¬ B2 = 0 := fun e => hno ⟨hA0, e⟩
        subst hA0
        have hd : decide (B2 = 0) = false := decide_eq_false hB0
        have hd2 : (B2 == 0) = false := by simpa using hB0
        clear hno HE
        go_wp2
        go_ret
        exact ⟨rfl, HB3.out⟩
      · have hd : decide (A2 = 0) = false := decide_eq_false hA0
        have hd2 : (A2 == 0) = false := by simpa using hA0
        clear hno HE
        go_wp2
        go_ret
        exact ⟨rfl, HB3.out⟩
    · have C4 := hide (C4f.out a2 c2 w3 HI23.out)
      obtain ⟨Cn, hCn⟩ : ∃ q, C1.length = q := ⟨_, rfl⟩
      rw [hCn] at C4 C5f
      clear HE hCn
      go_wp2_with fail
      refine C4.out.mono ?_
      rintro e w4 ⟨a4, c4, rfl, hI4, hb4⟩
      have HI4 := hide hI4
      have HB4 := hide (HB3.out.trans (hb4.mono HB3.out.size))
      have C5 := hide (C5f.out a3 c3 w4 (HI3.out.below' hb4))
      clear hI4 hb4 C4 HB3 HI3 C5f C4f
      go_wp2_with fail
      refine C5.out.mono ?_
      rintro e w5 ⟨a5, c5, rfl, hI5, hb5⟩
      have HB5 := hide (HB4.out.trans (hb5.mono HB4.out.size))
      have C6 := hide (same_any a4 Cn c4 C1 a5 Cn c5 C1 w5 (HI4.out.below' hb5) hI5)
      clear hI5 hb5 C5 HB4 HI4
      go_wp2_with fail
      refine C6.out.mono ?_
      rintro e w6 ⟨⟨r, rfl, hr⟩, hb6⟩
      obtain rfl : r = true := by simpa using hr
      have HB6 := hide (HB5.out.trans (hb6.mono HB5.out.size))
      clear hr hb6 C6
      go_wp2
      go_ret
      exact ⟨rfl, HB6.out⟩
  · clear hE1 hq hne
    go_wp2_with fail
    refine C2.out.mono ?_
    rintro e w2' ⟨a2, c2, rfl, hI2, hb2⟩
    have HI2 := hide hI2
    have HB2 := hide (HB1.out.trans (hb2.mono HB1.out.size))
    have C3 := hide (C3f.out w2' (HV.out.below' HB2.out))
    clear hI2 hb2 C2 C3f HB1
    go_wp2_with fail
    refine C3.out.mono ?_
    rintro e w3 ⟨a3, c3, rfl, hI3, hb3⟩
    have HI3 := hide hI3
    have HI23 := hide (HI2.out.below' hb3)
    have HB3 := hide (HB2.out.trans (hb3.mono HB2.out.size))
    clear hI3 hb3 C3 HB2 HI2
    rcases HE.out with hno | ⟨rfl, rfl, rfl, rfl, rfl⟩
    · by_cases hA0 : A2 = 0
      · have hB0 : ¬ B2 = 0 := fun e => hno ⟨hA0, e⟩
        subst hA0
        have hd : decide (B2 = 0) = false := decide_eq_false hB0
        have hd2 : (B2 == 0) = false := by simpa using hB0
        clear hno HE
        go_wp2
        go_ret
        exact ⟨rfl, HB3.out⟩
      · have hd : decide (A2 = 0) = false := decide_eq_false hA0
        have hd2 : (A2 == 0) = false := by simpa using hA0
        clear hno HE
        go_wp2
        go_ret
        exact ⟨rfl, HB3.out⟩
    · have C4 := hide (C4f.out a2 c2 w3 HI23.out)
      obtain ⟨Cn, hCn⟩ : ∃ q, C1.length = q := ⟨_, rfl⟩
      rw [hCn] at C4 C5f
      clear HE hCn
      go_wp2_with fail
      refine C4.out.mono ?_
      rintro e w4 ⟨a4, c4, rfl, hI4, hb4⟩
      have HI4 := hide hI4
      have HB4 := hide (HB3.out.trans (hb4.mono HB3.out.size))
      have C5 := hide (C5f.out a3 c3 w4 (HI3.out.below' hb4))
      clear hI4 hb4 C4 HB3 HI3 C5f C4f
      go_wp2_with fail
      refine C5.out.mono ?_
      rintro e w5 ⟨a5, c5, rfl, hI5, hb5⟩
      have HB5 := hide (HB4.out.trans (hb5.mono HB4.out.size))
      have C6 := hide (same_any a4 Cn c4 C1 a5 Cn c5 C1 w5 (HI4.out.below' hb5) hI5)
      clear hI5 hb5 C5 HB4 HI4
      go_wp2_with fail
      refine C6.out.mono ?_
      rintro e w6 ⟨⟨r, rfl, hr⟩, hb6⟩
      obtain rfl : r = true := by simpa using hr
      have HB6 := hide (HB5.out.trans (hb6.mono HB5.out.size))
      clear hr hb6 C6
      go_wp2
      go_ret
      exact ⟨rfl, HB6.out⟩
end Go.Proofs.Ytjochdmhhhhgiaa
namespace Go.Proofs.Ytjochdmhhhhgiaa.stockApart
open Go.RowKit
theorem lawWalk (a0 : Option Addr) (len0 cap0 : Nat) (l0 : List Cl) (n1 n2 n3 n4 n5 n6 : Int) (W : World) (w0 : IsC W a0 len0 cap0 l0) (_ : len0 * 48 ≤ 140737488355328) (_ : (Lit.int .i64 n1).wf = true) (_ : (Lit.int .i64 n2).wf = true) (_ : (Lit.int .i64 n3).wf = true) (_ : (Lit.int .i64 n4).wf = true) (_ : (Lit.int .i64 n5).wf = true) (_ : (Lit.int .i64 n6).wf = true) :
    Calls Try.prog 8 #[.slice a0 len0 cap0, .int .i64 n1, .int .i64 n2, .int .i64 n3, .int .i64 n4, .int .i64 n5, .int .i64 n6] W fun e W' => e = .returned (.bool true) ∧ Below W.heap.size W W' :=
  law_apart a0 len0 cap0 l0 n1 n2 n3 n4 n5 n6 W w0
end Go.Proofs.Ytjochdmhhhhgiaa.stockApart
